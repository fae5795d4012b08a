package desk

import (
	"strconv"
	"strings"

	"deadheat/api"
	"deadheat/fast"
	"deadheat/full"
	"deadheat/guard"
	"deadheat/order"
	"deadheat/race"
	"deadheat/ring"
	"deadheat/shrink"
	"deadheat/stamp"
	"deadheat/text"
	"deadheat/trace"
)

// The methods here are the commands. Each is called with all words of its line, as many
// as the table says, and changes the trace only after everything that can raise an
// error.

const done = "ok"

func (d *desk) tell(words []string) string {
	longer := append(d.events, must(text.Event(strings.Join(words, " "))))
	must(trace.Check(longer))
	d.events = longer
	return done
}

func (d *desk) races([]string) string {
	return printed(must(race.All(d.events)), func(r api.Race) string {
		return strconv.Itoa(r.A) + "-" + strconv.Itoa(r.B)
	})
}

func (d *desk) full([]string) string {
	return printed(must(full.Run(d.events)), placeAndKind)
}

func (d *desk) fast([]string) string {
	return printed(must(fast.Run(d.events)), placeAndKind)
}

func (d *desk) warns([]string) string {
	return printed(must(guard.Warns(d.events)), place)
}

func (d *desk) leads(words []string) string {
	if must(order.Leads(d.events, number(words[1]), number(words[2]))) {
		return "yes"
	}
	return "no"
}

func (d *desk) stamp(words []string) string {
	at := number(words[1])
	stamps := must(stamp.Stamps(d.events))
	if at >= len(stamps) {
		panic(api.ErrArg)
	}
	return printed(stamps[at][:], strconv.Itoa)
}

func (d *desk) ring([]string) string {
	return printed(must(ring.Ring(must(ring.Graph(d.events)))), strconv.Itoa)
}

func (d *desk) drop(words []string) string {
	d.events = must(shrink.Without(d.events, number(words[1])))
	return done
}

func (d *desk) min([]string) string {
	return strconv.Itoa(len(must(shrink.Min(d.events))))
}

func (d *desk) size([]string) string {
	return strconv.Itoa(len(d.events))
}

func (d *desk) clear([]string) string {
	d.events = nil
	return done
}

// must returns a result, or raises the error that came with it.
func must[T any](result T, errno api.Errno) T {
	if errno != api.OK {
		panic(errno)
	}
	return result
}

const maxDigits = 9

// number returns the NUMBER that a word is. Of all texts that strconv reads as the same
// number, only the one that it writes has neither a sign nor a zero too many.
func number(word string) int {
	n, err := strconv.Atoi(word)
	if err != nil || n < 0 || len(word) > maxDigits || word != strconv.Itoa(n) {
		panic(api.ErrSyntax)
	}
	return n
}

// printed returns the texts of all results, separated by spaces, or what stands for none.
func printed[T any](results []T, textOf func(result T) string) string {
	if len(results) == 0 {
		return "-"
	}
	texts := make([]string, len(results))
	for i, result := range results {
		texts[i] = textOf(result)
	}
	return strings.Join(texts, " ")
}

func place(f api.Flag) string {
	return strconv.Itoa(f.At)
}

func placeAndKind(f api.Flag) string {
	return place(f) + ":" + strconv.Itoa(f.Kind)
}
