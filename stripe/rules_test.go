package stripe_test

import (
	"slices"
	"testing"
	"testing/synctest"

	"deadheat/api"
	"deadheat/cases"
	"deadheat/stripe"
)

// P1: whatever a list has, there is no panic, and the results are those of fast.Run.
func TestOddLists(t *testing.T) {
	n := 0
	var some [][]api.Event
	for l := range cases.Odd() {
		n++
		wantFast(t, n%8+1, l)
		if some = append(some, l); len(some) == 40 {
			flags, numbers := together(some)
			wantAll(t, n%8+1, some, flags, numbers, api.OK)
			some = nil
		}
	}
}

// P33: no goroutine is left when the functions have returned: synctest.Test fails if
// one waits for ever.
func TestGoroutinesEnd(t *testing.T) {
	synctest.Test(t, func(t *testing.T) {
		l := cases.Long(80, 5)
		for hands := range 10 {
			stripe.Run(hands, l)
			stripe.Run(hands, nil)
			stripe.Run(hands, []api.Event{{}})
			stripe.All(hands, [][]api.Event{l, nil, {{}}, l})
			stripe.All(hands, nil)
			stripe.All(hands, make([][]api.Event, 41))
		}
	})
}

// P2: the arguments

func TestArgumentsOfRunAreNotModified(t *testing.T) {
	for hands := 1; hands <= 8; hands++ {
		if cases.IsChanged(func(l []api.Event) { stripe.Run(hands, l) }) {
			t.Errorf("%d hands: modified", hands)
		}
	}
}

// This includes traces and events behind those of the argument, in the same memory.
func TestArgumentsOfAllAreNotModified(t *testing.T) {
	var all, shorter [][]api.Event
	for seed := range 45 {
		l := cases.Long(80, seed)
		all, shorter = append(all, l), append(shorter, l[:60+seed%21])
	}
	wantAll, wantShorter := cases.Copied(all), cases.Copied(shorter)
	for hands := 1; hands <= 8; hands++ {
		for _, n := range []int{0, 1, 7, 40, 41} {
			stripe.All(hands, shorter[:n])
		}
	}
	if !cases.AreEqual(all, wantAll) || !cases.AreEqual(shorter, wantShorter) {
		t.Error("modified")
	}
}

// Traces that share memory are like those that do not.
func TestTracesThatShareMemory(t *testing.T) {
	l := cases.Long(80, 9)
	var shared [][]api.Event
	for n := range 40 {
		shared = append(shared, l[:2*n])
	}
	flags, numbers := together(cases.Copied(shared))
	wantResults(t, shared, flags, numbers)
}

// A result is that of the traces as they were at the call.
func TestArgumentsAreNotRetained(t *testing.T) {
	l := cases.Events("t0 fork t1; t0 write x5; t1 write x5")
	flags, _ := stripe.Run(2, l)
	both := [][]api.Event{l, l}
	all, numbers, _ := stripe.All(2, both)
	clear(l)
	clear(both)
	want := cases.Flags("2 x5 ww")
	if !slices.Equal(flags, want) || !slices.Equal(all, slices.Repeat(want, 2)) || !slices.Equal(numbers, []int{1, 1}) {
		t.Errorf("%v, %v, %v", flags, all, numbers)
	}
}

// P2: the results

func TestResultsAreNewlyAllocated(t *testing.T) {
	for _, s := range samples() {
		l := cases.Events(s.trace)
		both := [][]api.Event{l, l}
		for _, hands := range []int{1, 3, 8} {
			if cases.SharesMemory(func() []api.Flag { flags, _ := stripe.Run(hands, l); return flags }) ||
				cases.SharesMemory(func() []api.Flag { flags, _, _ := stripe.All(hands, both); return flags }) ||
				cases.SharesMemory(func() []int { _, numbers, _ := stripe.All(hands, both); return numbers }) {
				t.Errorf("%d hands, %s: results share memory", hands, s.trace)
			}
		}
		wantFlags(t, l, cases.Flags(s.flags))
	}
}

func TestResultsDependOnlyOnArguments(t *testing.T) {
	l := append(traces("t0 fork t1; t0 write x5; t1 write x5", "t1 read x0"), cases.Long(80, 7))
	flags, numbers := together(l)
	cases.Together(func() {
		for _, s := range samples() {
			wantFlags(t, cases.Events(s.trace), cases.Flags(s.flags))
		}
		for errno, invalid := range cases.Invalid() {
			wantRun(t, 3, invalid, nil, errno)
		}
		wantResults(t, l, flags, numbers)
		wantAll(t, 0, l, nil, nil, api.ErrArg)
		wantAll(t, 8, make([][]api.Event, 41), nil, nil, api.ErrLarge)
	})
}
