package stripe

import (
	"cmp"
	"slices"

	"deadheat/api"
	"deadheat/fast"
	"deadheat/full"
)

// hand is a goroutine that receives the accesses of its variables and sends their
// flags. Nobody else uses its channels but the caller, so that the order in which
// the goroutines go on does not matter.
type hand struct {
	accesses chan full.Access
	flags    chan api.Flag
}

// begin starts so many goroutines for so many accesses in all.
func begin(hands, accesses int) []hand {
	crew := make([]hand, hands)
	for i := range crew {
		// There is room for whatever is sent, so that no goroutine waits for the caller
		// to receive, nor the caller for one of them while it has accesses for others.
		crew[i] = hand{make(chan full.Access, accesses), make(chan api.Flag, accesses)}
		go crew[i].work()
	}
	return crew
}

// work goes on until there are no more accesses. Whoever received all flags knows
// that the goroutine is over, as closing the channel is the last that it does.
func (h hand) work() {
	d := fast.New()
	for a := range h.accesses {
		if flag, is := d.Access(a); is {
			h.flags <- flag
		}
	}
	close(h.flags)
}

// deal sends all accesses, each to the goroutine of its variable.
func deal(accesses []full.Access, crew []hand) {
	for _, a := range accesses {
		crew[a.Obj%len(crew)].accesses <- a
	}
	for _, h := range crew {
		close(h.accesses)
	}
}

// gather receives the flags of all goroutines, and returns them in the order of the
// events.
func gather(crew []hand) []api.Flag {
	var flags []api.Flag
	for _, h := range crew {
		for flag := range h.flags {
			flags = append(flags, flag)
		}
	}
	slices.SortFunc(flags, func(f, g api.Flag) int { return cmp.Compare(f.At, g.At) })
	return flags
}
