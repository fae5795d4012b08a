// Package cases has traces for the tests of the other packages.
package cases

import (
	"iter"
	"slices"
	"strings"

	"deadheat/api"
	"deadheat/text"
	"deadheat/trace"
)

// Events returns the events with the given texts, separated by semicolons; they
// need not be a trace. It panics if there is no such event, as a test is wrong then.
func Events(s string) []api.Event {
	var l []api.Event
	for _, line := range strings.Split(s, "; ") {
		e, errno := text.Event(line)
		if errno != api.OK {
			panic("no event: " + line)
		}
		l = append(l, e)
	}
	return l
}

// Invalid returns lists with each error of trace.Check.
func Invalid() map[api.Errno][]api.Event {
	return map[api.Errno][]api.Event{
		api.ErrLarge: slices.Repeat(Events("t0 read x0"), 81),
		api.ErrArg:   append(Events("t0 read x0"), api.Event{Kind: api.Write, Obj: 8}),
		api.ErrState: Events("t0 fork t1; t2 read x0"),
		api.ErrHeld:  Events("t0 acquire m2; t0 acquire m2"),
		api.ErrFree:  Events("t0 acquire m2; t0 release m1"),
		api.ErrTwice: Events("t0 fork t1; t0 fork t1"),
		api.ErrNone:  Events("t0 read x0; t0 join t0"),
	}
}

// Short yields all traces of some events: those of up to four, and those of up
// to three more after a start with three threads.
func Short() iter.Seq[[]api.Event] {
	return func(yield func([]api.Event) bool) {
		_ = extend(nil, 4, yield) && extend(Events("t0 fork t2; t0 fork t1; t1 acquire m0"), 3, yield)
	}
}

// extend yields all traces of which l is the start and which have at most so many
// events more. It reports whether there is to be another trace.
func extend(l []api.Event, more int, yield func([]api.Event) bool) bool {
	if more == 0 {
		return true
	}
	for _, e := range choices() {
		longer := append(l[:len(l):len(l)], e)
		if _, errno := trace.Check(longer); errno != api.OK {
			continue
		}
		if !yield(longer) || !extend(longer, more-1, yield) {
			return false
		}
	}
	return true
}

// choices returns events of which many depend on others.
func choices() []api.Event {
	var l []api.Event
	for thread := range 3 {
		l = append(l, api.Event{Kind: api.Write, Thread: thread, Obj: 1})
		for obj := range 3 {
			l = append(l, api.Event{Kind: api.Fork, Thread: thread, Obj: obj}, api.Event{Kind: api.Join, Thread: thread, Obj: obj})
		}
		for obj := range 2 {
			for _, kind := range []int{api.Acquire, api.Release, api.See, api.Show} {
				l = append(l, api.Event{Kind: kind, Thread: thread, Obj: obj})
			}
		}
	}
	return l
}

// Long returns a trace of n events (at least 4, at most 80) of all kinds, objects
// and threads; which one depends on seed alone.
func Long(n, seed int) []api.Event {
	l := Events("t0 fork t3; t3 fork t1; t0 fork t4; t1 fork t2")
	state := uint32(seed)
	below := func(limit int) int {
		state = state*1664525 + 1013904223
		return int(state>>16) % limit
	}
	for len(l) < n {
		e := api.Event{Kind: below(8) + 1, Thread: below(6), Obj: below(8)}
		if e.Kind == api.Join && below(8) > 0 {
			continue // Joins end threads: with more of them only one would go on.
		}
		if _, errno := trace.Check(append(l[:len(l):len(l)], e)); errno == api.OK {
			l = append(l, e)
		}
	}
	return l
}
