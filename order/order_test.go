package order_test

import (
	"math"
	"slices"
	"testing"

	"deadheat/api"
	"deadheat/cases"
	"deadheat/order"
	"deadheat/trace"
)

// sorted returns pairs in increasing order of A, then of B.
func sorted(l []api.Pair) []api.Pair {
	return slices.SortedFunc(slices.Values(l), func(p, q api.Pair) int {
		if p.A != q.A {
			return p.A - q.A
		}
		return p.B - q.B
	})
}

// allPairs returns all pairs of indices below n whose A is lower.
func allPairs(n int) []api.Pair {
	var l []api.Pair
	for a := range n {
		for b := a + 1; b < n; b++ {
			l = append(l, api.Pair{A: a, B: b})
		}
	}
	return l
}

func wantDirect(t *testing.T, l []api.Event, want []api.Pair, wantErrno api.Errno) {
	t.Helper()
	if got, errno := order.Direct(l); !slices.Equal(got, want) || errno != wantErrno {
		t.Errorf("Direct(%v) = %v, %d, want %v, %d", l, got, errno, want, wantErrno)
	}
}

func wantBefore(t *testing.T, l []api.Event, want []api.Pair, wantErrno api.Errno) {
	t.Helper()
	if got, errno := order.Before(l); !slices.Equal(got, want) || errno != wantErrno {
		t.Errorf("Before(%v) = %v, %d, want %v, %d", l, got, errno, want, wantErrno)
	}
}

func wantLeads(t *testing.T, l []api.Event, i, j int, want bool, wantErrno api.Errno) {
	t.Helper()
	if got, errno := order.Leads(l, i, j); got != want || errno != wantErrno {
		t.Errorf("Leads(%v, %d, %d) = %t, %d, want %t, %d", l, i, j, got, errno, want, wantErrno)
	}
}

// sample is a trace with the pairs of Direct, and those that Before has beside them.
type sample struct{ trace, direct, more string }

func (s sample) before() []api.Pair {
	return sorted(cases.Pairs(s.direct + " " + s.more))
}

// samples returns traces whose pairs were found by reading P11.
func samples() []sample {
	return []sample{
		{"t0 read x0", "", ""},
		// The same thread: whatever the events are.
		{"t0 read x0; t0 read x1", "0-1", ""},
		{"t0 acquire m0; t0 write x1; t0 show v2; t0 release m0", "0-1 0-2 0-3 1-2 1-3 2-3", ""},
		{"t0 see v0; t0 show v0; t0 acquire m0; t0 release m0", "0-1 0-2 0-3 1-2 1-3 2-3", ""},
		// A Release and every later Acquire of the same lock.
		{"t0 fork t1; t0 acquire m0; t0 release m0; t1 acquire m0; t1 release m0",
			"0-1 0-2 0-3 0-4 1-2 2-3 3-4", "1-3 1-4 2-4"},
		{"t0 fork t1; t0 acquire m0; t0 release m0; t1 acquire m1; t1 release m1", "0-1 0-2 0-3 0-4 1-2 3-4", ""},
		{"t0 fork t1; t0 fork t2; t0 acquire m4; t0 release m4; t1 acquire m4; t1 release m4; t2 acquire m4",
			"0-1 0-2 0-3 0-4 0-5 1-2 1-3 1-6 2-3 3-4 3-6 4-5 5-6", "0-6 1-4 1-5 2-4 2-5 2-6 3-5 4-6"},
		// A Fork and the events of the forked thread, but not those of its threads.
		{"t0 fork t5; t5 read x0; t0 read x0; t5 write x0", "0-1 0-2 0-3 1-3", ""},
		{"t0 fork t1; t1 fork t2; t2 read x0; t0 read x0", "0-1 0-3 1-2", "0-2"},
		{"t0 fork t3; t0 fork t4; t4 see v0; t3 see v0", "0-1 0-3 1-2", "0-2"},
		// The events of the joined thread and a Join, and a Fork and a Join.
		{"t0 fork t1; t1 write x0; t1 write x1; t0 join t1", "0-1 0-2 0-3 1-2 1-3 2-3", ""},
		{"t0 fork t1; t0 fork t2; t2 join t1; t2 read x0", "0-1 0-2 1-2 1-3 2-3", "0-3"},
		{"t0 fork t1; t1 fork t2; t1 fork t3; t0 read x0; t3 join t2", "0-1 0-2 0-3 1-2 1-4 2-4", "0-4"},
		{"t0 fork t1; t0 write x0; t1 join t0; t1 write x0", "0-1 0-2 0-3 1-2 2-3", "1-3"},
		{"t0 fork t1; t1 read x0; t0 read x1; t0 join t1; t0 read x2", "0-1 0-2 0-3 0-4 1-3 2-3 2-4 3-4", "1-4"},
		// A thread that is joined more than once.
		{"t0 fork t1; t0 fork t2; t1 write x0; t0 join t1; t2 join t1; t2 join t1",
			"0-1 0-2 0-3 0-4 0-5 1-3 1-4 1-5 2-3 2-4 2-5 4-5", ""},
		// A Show and every later See of the same signal.
		{"t0 fork t1; t0 show v3; t1 see v3; t1 see v3", "0-1 0-2 0-3 1-2 1-3 2-3", ""},
		{"t0 fork t1; t0 show v3; t1 see v2", "0-1 0-2", ""},
		{"t0 fork t1; t1 see v3; t0 show v3; t1 see v3", "0-1 0-2 0-3 1-3 2-3", ""},
		{"t0 fork t1; t0 show v1; t1 show v1; t0 see v1; t1 see v1", "0-1 0-2 0-3 0-4 1-3 1-4 2-3 2-4", ""},
		// A chain through all threads.
		{"t0 fork t1; t0 fork t2; t1 write x0; t1 show v0; t0 see v0; t0 acquire m0; t0 release m0; t2 acquire m0; t2 write x0",
			"0-1 0-2 0-3 0-4 0-5 0-6 1-4 1-5 1-6 1-7 1-8 2-3 3-4 4-5 4-6 5-6 6-7 7-8",
			"0-7 0-8 2-4 2-5 2-6 2-7 2-8 3-5 3-6 3-7 3-8 4-7 4-8 5-7 5-8 6-8"},
	}
}

// unrelated returns traces whose last two events are of two threads and in neither order.
func unrelated() []string {
	const begin = "t0 fork t1; t0 fork t2; t0 fork t3; "
	return []string{
		// Accesses order nothing, whatever they are of.
		begin + "t1 write x0; t2 read x0", begin + "t1 read x0; t2 write x0", begin + "t1 write x0; t2 write x0",
		begin + "t1 read x2; t2 read x0", begin + "t1 read x0; t2 read x1", begin + "t1 write x2; t2 write x1",
		// Kinds that come in the other order, or that are the same.
		begin + "t1 see v0; t2 show v0", begin + "t1 show v0; t2 show v0", begin + "t1 see v0; t2 see v0",
		begin + "t1 acquire m0; t1 release m0; t2 read x0", begin + "t1 join t3; t2 join t3",
		begin + "t1 acquire m1; t2 acquire m2", begin + "t1 acquire m0; t0 acquire m1; t1 release m0; t0 release m1",
		// Objects of other kinds that have the same number.
		begin + "t1 acquire m0; t1 release m0; t2 see v0", begin + "t1 show v0; t2 acquire m0",
		begin + "t1 show v3; t2 join t3", begin + "t1 acquire m3; t1 release m3; t2 join t3",
		begin + "t1 fork t4; t2 acquire m4", begin + "t1 fork t5; t2 see v3", begin + "t1 write x0; t2 see v0",
		begin + "t1 write x0; t2 acquire m0", begin + "t1 show v0; t2 read x0",
		// Objects that are no threads, but have the number of one.
		begin + "t1 write x2; t2 write x3", begin + "t1 show v2; t2 show v3", begin + "t1 read x2; t2 read x3",
		begin + "t1 acquire m2; t1 release m2; t2 read x3", begin + "t1 read x3; t2 acquire m1",
		begin + "t1 read x3; t2 see v1", begin + "t1 read x3; t2 write x1", begin + "t1 acquire m2; t2 acquire m1",
		// Forks and Joins of other threads.
		begin + "t1 fork t4; t2 fork t5", begin + "t1 fork t4; t2 join t3", begin + "t1 join t3; t2 fork t4",
		begin + "t1 fork t4; t2 read x4", begin + "t1 join t3; t2 read x3", begin + "t1 write x3; t2 join t3",
	}
}

// P11

func TestSamples(t *testing.T) {
	for _, s := range samples() {
		wantDirect(t, cases.Events(s.trace), cases.Pairs(s.direct), api.OK)
		wantBefore(t, cases.Events(s.trace), s.before(), api.OK)
	}
}

func TestUnrelatedEvents(t *testing.T) {
	for _, s := range unrelated() {
		l := cases.Events(s)
		last := api.Pair{A: len(l) - 2, B: len(l) - 1}
		for _, ask := range []func([]api.Event) ([]api.Pair, api.Errno){order.Direct, order.Before} {
			if got, errno := ask(l); slices.Contains(got, last) || errno != api.OK {
				t.Errorf("%s: %v, %d, want no %v", s, got, errno, last)
			}
		}
		wantLeads(t, l, last.A, last.B, false, api.OK)
	}
}

// direct is P11 in its own words, for events of which a is the earlier one.
func direct(a, b api.Event) bool {
	return slices.Contains([]bool{
		a.Thread == b.Thread,
		a.Kind == api.Release && b.Kind == api.Acquire && a.Obj == b.Obj,
		a.Kind == api.Fork && b.Thread == a.Obj,
		a.Kind == api.Fork && b.Kind == api.Join && a.Obj == b.Obj,
		b.Kind == api.Join && a.Thread == b.Obj,
		a.Kind == api.Show && b.Kind == api.See && a.Obj == b.Obj,
	}, true)
}

// closed returns pairs together with all that follow from them, by adding until nothing is new.
func closed(n int, l []api.Pair) []api.Pair {
	is := map[api.Pair]bool{}
	for _, p := range l {
		is[p] = true
	}
	for grown := true; grown; {
		grown = false
		for _, p := range allPairs(n) {
			for c := p.A + 1; c < p.B && !is[p]; c++ {
				if is[api.Pair{A: p.A, B: c}] && is[api.Pair{A: c, B: p.B}] {
					is[p], grown = true, true
				}
			}
		}
	}
	return slices.DeleteFunc(allPairs(n), func(p api.Pair) bool { return !is[p] })
}

// wantAll compares the results for a trace with those that follow from P11.
func wantAll(t *testing.T, l []api.Event) {
	t.Helper()
	pairs := slices.DeleteFunc(allPairs(len(l)), func(p api.Pair) bool { return !direct(l[p.A], l[p.B]) })
	wantDirect(t, l, pairs, api.OK)
	wantBefore(t, l, closed(len(l), pairs), api.OK)
}

func TestAllShortTraces(t *testing.T) {
	for l := range cases.Short() {
		wantAll(t, l)
	}
}

func TestLongTraces(t *testing.T) {
	for seed := range 60 {
		wantAll(t, cases.Long(80-seed%3, seed))
	}
}

// In a chain like this, the first event is before the last one through all those between.
func TestLongChain(t *testing.T) {
	l := cases.Events("t0 fork t1")
	for i := 0; len(l) < 80; i++ {
		sender, receiver := i%2, (i+1)%2
		l = append(l, api.Event{Kind: api.Show, Thread: sender}, api.Event{Kind: api.See, Thread: receiver})
	}
	l = l[:80]
	wantAll(t, l)
	wantLeads(t, l, 0, 79, true, api.OK)
	wantLeads(t, l, 1, 79, true, api.OK)
	wantLeads(t, l, 79, 0, false, api.OK)
}

// P11: what happens before what is a strict order that agrees with the indices.
func TestBeforeIsAStrictOrder(t *testing.T) {
	for seed := range 20 {
		l := cases.Long(60, seed)
		pairs, errno := order.Before(l)
		if errno != api.OK {
			t.Fatalf("Before(%v): %d", l, errno)
		}
		for _, p := range pairs {
			if p.A >= p.B {
				t.Errorf("%v: %v is not in the order of the trace", l, p)
			}
		}
		if !slices.Equal(closed(len(l), pairs), pairs) {
			t.Errorf("%v: not transitive: %v", l, pairs)
		}
	}
}

// P12

func TestNoEvents(t *testing.T) {
	for _, l := range [][]api.Event{nil, {}} {
		wantDirect(t, l, nil, api.OK)
		wantBefore(t, l, nil, api.OK)
		wantLeads(t, l, 0, 0, false, api.ErrArg)
	}
}

func TestOneThread(t *testing.T) {
	for n := range 81 {
		l := slices.Repeat(cases.Events("t0 read x0"), n)
		wantDirect(t, l, allPairs(n), api.OK)
		wantBefore(t, l, allPairs(n), api.OK)
	}
}

func TestPairsAreInIncreasingOrder(t *testing.T) {
	for seed := range 20 {
		l := cases.Long(80, seed)
		for _, ask := range []func([]api.Event) ([]api.Pair, api.Errno){order.Direct, order.Before} {
			pairs, errno := ask(l)
			if errno != api.OK || len(pairs) == 0 || !slices.Equal(pairs, slices.Compact(sorted(pairs))) {
				t.Errorf("%v: %v, %d", l, pairs, errno)
			}
		}
	}
}

func TestLeads(t *testing.T) {
	for _, s := range samples() {
		l := cases.Events(s.trace)
		for i := range l {
			for j := range l {
				wantLeads(t, l, i, j, slices.Contains(s.before(), api.Pair{A: i, B: j}), api.OK)
			}
		}
	}
}

func TestLeadsOfALongTrace(t *testing.T) {
	l := cases.Long(80, 7)
	pairs, _ := order.Before(l)
	for i := range l {
		for j := range l {
			wantLeads(t, l, i, j, slices.Contains(pairs, api.Pair{A: i, B: j}), api.OK)
		}
	}
}

func TestShowAndSee(t *testing.T) {
	l := cases.Events("t0 fork t1; t1 see v2; t0 show v2; t1 see v2; t0 see v2")
	wantLeads(t, l, 2, 3, true, api.OK)
	wantLeads(t, l, 2, 1, false, api.OK)
	wantLeads(t, l, 1, 2, false, api.OK)
	wantLeads(t, l, 3, 2, false, api.OK)
}

func TestLeadsOfWhatIsNoIndex(t *testing.T) {
	l := cases.Events("t0 fork t1; t0 acquire m0; t1 read x0; t0 release m0")
	all := []int{math.MinInt, -80, -1, 4, 5, 79, 80, 81, 1 << 32, math.MaxInt}
	for _, bad := range all {
		for i := range l {
			wantLeads(t, l, i, bad, false, api.ErrArg)
			wantLeads(t, l, bad, i, false, api.ErrArg)
		}
		for _, other := range all {
			wantLeads(t, l, bad, other, false, api.ErrArg)
		}
		wantLeads(t, nil, bad, 0, false, api.ErrArg)
	}
	wantLeads(t, l[:1], 0, 1, false, api.ErrArg)
	wantLeads(t, l[:1], 1, 0, false, api.ErrArg)
	wantLeads(t, cases.Long(80, 1), 0, 80, false, api.ErrArg)
	wantLeads(t, cases.Long(80, 1), 80, 0, false, api.ErrArg)
	wantLeads(t, cases.Long(80, 1), -1, 79, false, api.ErrArg)
}

// wantError wants the same error from all functions, whatever i and j are.
func wantError(t *testing.T, l []api.Event, i, j int, want api.Errno) {
	t.Helper()
	wantDirect(t, l, nil, want)
	wantBefore(t, l, nil, want)
	wantLeads(t, l, i, j, false, want)
}

func TestErrorsOfTraces(t *testing.T) {
	for errno, l := range cases.Invalid() {
		wantError(t, l, 0, 1, errno)
	}
}

// The error of the trace is before that of the indices.
func TestErrorOfTheTraceIsFirst(t *testing.T) {
	for errno, l := range cases.Invalid() {
		for _, bad := range []int{math.MinInt, -1, len(l), len(l) + 1, math.MaxInt} {
			wantLeads(t, l, bad, 0, false, errno)
			wantLeads(t, l, 0, bad, false, errno)
			wantLeads(t, l, bad, bad, false, errno)
		}
	}
}

// P1 and P2

// Whatever a list has, there is no panic, and the error is that of trace.Check.
func TestOddLists(t *testing.T) {
	for l := range cases.Odd() {
		if _, errno := trace.Check(l); errno != api.OK {
			wantError(t, l, len(l)-1, len(l), errno)
		} else {
			wantAll(t, l)
		}
	}
}

func TestArgumentsAreNotModified(t *testing.T) {
	if cases.IsChanged(func(l []api.Event) {
		order.Direct(l)
		order.Before(l)
		order.Leads(l, 0, 2)
	}) {
		t.Error("modified")
	}
}

func TestPairsAreNewlyAllocated(t *testing.T) {
	for _, s := range samples() {
		l := cases.Events(s.trace)
		direct := func() []api.Pair { pairs, _ := order.Direct(l); return pairs }
		before := func() []api.Pair { pairs, _ := order.Before(l); return pairs }
		if cases.SharesMemory(direct) || cases.SharesMemory(before) {
			t.Errorf("%s: results share memory", s.trace)
		}
		wantDirect(t, l, cases.Pairs(s.direct), api.OK)
		wantBefore(t, l, s.before(), api.OK)
	}
}

func TestResultsDependOnlyOnArguments(t *testing.T) {
	cases.Together(func() {
		for _, s := range samples() {
			l := cases.Events(s.trace)
			wantDirect(t, l, cases.Pairs(s.direct), api.OK)
			wantBefore(t, l, s.before(), api.OK)
			wantLeads(t, l, 0, 0, false, api.OK)
		}
		for errno, l := range cases.Invalid() {
			wantError(t, l, 0, 1, errno)
		}
	})
}
