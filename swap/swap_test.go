package swap_test

import (
	"iter"
	"maps"
	"math"
	"slices"
	"testing"

	"deadheat/api"
	"deadheat/cases"
	"deadheat/race"
	"deadheat/swap"
	"deadheat/trace"
)

// badIndices returns numbers that are not the index of the first of two events
// among n. One more than the last of them is too large for an int.
func badIndices(n int) []int {
	return []int{math.MinInt, -n, -2, -1, n - 1, n, n + 1, 80, 1 << 32, math.MaxInt - 1, math.MaxInt}
}

func wantApart(t *testing.T, a, b api.Event, want bool) {
	t.Helper()
	if got := swap.Apart(a, b); got != want {
		t.Errorf("Apart(%v, %v) = %v, want %v", a, b, got, want)
	}
}

func wantSwap(t *testing.T, l []api.Event, i int, want []api.Event, wantErrno api.Errno) {
	t.Helper()
	if got, errno := swap.Swap(l, i); !slices.Equal(got, want) || errno != wantErrno {
		t.Errorf("Swap(%v, %d) = %v, %d, want %v, %d", l, i, got, errno, want, wantErrno)
	}
}

func wantSame(t *testing.T, a, b []api.Event, want bool, wantErrno api.Errno) {
	t.Helper()
	if got, errno := swap.Same(a, b); got != want || errno != wantErrno {
		t.Errorf("Same(%v, %v) = %v, %d, want %v, %d", a, b, got, errno, want, wantErrno)
	}
}

func wantLeast(t *testing.T, l, want []api.Event, wantErrno api.Errno) {
	t.Helper()
	if got, errno := swap.Least(l); !slices.Equal(got, want) || errno != wantErrno {
		t.Errorf("Least(%v) = %v, %d, want %v, %d", l, got, errno, want, wantErrno)
	}
}

// wantError wants the same error from all functions of traces, and zero values beside it.
func wantError(t *testing.T, l []api.Event, i int, want api.Errno) {
	t.Helper()
	wantSwap(t, l, i, nil, want)
	wantSame(t, l, cases.Events("t0 read x0"), false, want)
	wantSame(t, cases.Events("t0 read x0"), l, false, want)
	wantSame(t, l, l, false, want)
	wantLeast(t, l, nil, want)
}

// P24

// dependent returns pairs of events that are not independent.
func dependent() []string {
	return []string{
		// Of the same thread, whatever they are.
		"t0 read x0; t0 read x0", "t0 read x0; t0 write x1", "t3 acquire m0; t3 see v1", "t5 fork t1; t5 join t2", "t2 see v0; t2 see v0",
		// Accesses of the same variable of which one is a Write.
		"t0 write x0; t1 read x0", "t0 write x7; t5 write x7", "t4 read x3; t2 write x3",
		// Whatever two threads do with the same lock.
		"t0 acquire m0; t1 acquire m0", "t0 release m4; t1 acquire m4", "t1 acquire m2; t2 release m2", "t3 release m1; t0 release m1",
		// A See and a Show, or two Shows, of the same signal.
		"t0 see v0; t1 show v0", "t0 show v3; t1 see v3", "t2 show v1; t4 show v1",
		// A Fork or a Join, and an event of the thread that is forked or joined.
		"t0 fork t1; t1 read x0", "t0 join t1; t1 show v2", "t0 fork t2; t2 fork t3", "t1 join t0; t0 join t3", "t0 join t1; t1 join t0",
		"t0 fork t1; t1 acquire m1", "t4 join t5; t5 see v0",
		// A Fork and another Fork or a Join of the same thread.
		"t0 fork t2; t1 fork t2", "t0 fork t2; t1 join t2", "t3 join t5; t0 fork t5",
	}
}

// independent returns pairs of events that are.
func independent() []string {
	return []string{
		"t0 read x0; t1 read x0", "t0 write x0; t1 write x1", "t0 write x0; t1 read x7", "t5 read x2; t4 write x3",
		"t0 acquire m0; t1 acquire m1", "t0 release m0; t1 acquire m4", "t2 acquire m3; t1 release m2", "t2 release m3; t1 release m2",
		"t0 see v0; t1 see v0", "t0 see v0; t1 show v1", "t0 show v2; t1 show v3",
		"t0 join t2; t1 join t2", "t0 fork t2; t1 fork t3", "t0 join t2; t1 fork t3", "t0 join t2; t1 join t3",
		// Different things with the same number.
		"t0 write x1; t2 acquire m1", "t0 write x1; t2 show v1", "t0 write x3; t2 fork t3", "t0 read x3; t2 join t3",
		"t0 release m1; t2 show v1", "t0 acquire m3; t2 join t3", "t0 show v3; t2 fork t3",
		// The number of the other thread, but not as the thread of a Fork or a Join.
		"t0 read x1; t1 read x0", "t0 write x1; t1 write x2", "t0 acquire m1; t1 release m0", "t0 show v1; t1 see v2",
		// A Fork or a Join of a third thread.
		"t0 fork t2; t1 write x0", "t0 join t2; t1 acquire m2", "t0 fork t2; t1 show v2",
	}
}

func TestApart(t *testing.T) {
	for want, pairs := range map[bool][]string{false: dependent(), true: independent()} {
		for _, s := range pairs {
			l := cases.Events(s)
			wantApart(t, l[0], l[1], want)
			wantApart(t, l[1], l[0], want)
		}
	}
}

// isApart goes through the conditions of P24 one by one.
func isApart(a, b api.Event) bool {
	bothOf := func(kinds ...int) bool {
		return slices.Contains(kinds, a.Kind) && slices.Contains(kinds, b.Kind)
	}
	isOf := func(e api.Event, thread int) bool {
		return slices.Contains([]int{5, 6}, e.Kind) && e.Obj == thread
	}
	isSame := a.Obj == b.Obj
	switch {
	case a.Thread == b.Thread:
		return false
	case bothOf(1, 2) && isSame && !bothOf(1):
		return false
	case bothOf(3, 4) && isSame:
		return false
	case bothOf(7, 8) && isSame && !bothOf(7):
		return false
	case isOf(a, b.Thread) || isOf(b, a.Thread):
		return false
	case bothOf(5, 6) && isSame && !bothOf(6):
		return false
	}
	return true
}

// Events need not be in range, and what is no kind depends on nothing by itself.
func TestApartOfAllEvents(t *testing.T) {
	var all []api.Event
	for _, kind := range []int{math.MinInt, -1, 0, 1, 2, 3, 4, 5, 6, 7, 8, 9, 10, math.MaxInt} {
		for _, thread := range []int{math.MinInt, -1, 0, 1, 5, 6, math.MaxInt} {
			for _, obj := range []int{math.MinInt, -1, 0, 1, 5, 6, 8, math.MaxInt} {
				all = append(all, api.Event{Kind: kind, Thread: thread, Obj: obj})
			}
		}
	}
	for _, a := range all {
		for _, b := range all {
			wantApart(t, a, b, isApart(a, b))
		}
	}
	for _, c := range []struct {
		a, b api.Event
		want bool
	}{
		{api.Event{}, api.Event{}, false},
		{api.Event{}, api.Event{Thread: 1}, true},
		{api.Event{Kind: 9}, api.Event{Kind: 9, Thread: 1}, true},
		{api.Event{Thread: -1}, api.Event{Kind: 9, Thread: -1}, false},
		{api.Event{Thread: 7}, api.Event{Kind: api.Fork, Obj: 7}, false},
		{api.Event{Kind: api.Write, Thread: -1, Obj: 8}, api.Event{Kind: api.Write, Thread: 6, Obj: 8}, false},
	} {
		wantApart(t, c.a, c.b, c.want)
		wantApart(t, c.b, c.a, c.want)
	}
}

// P25: Swap

// An exchange of two events changes nothing else. In front of the events are all
// others that they need, so that they are a trace in either order.
func TestSwapOfIndependentEvents(t *testing.T) {
	const begin = "t0 fork t1; t0 fork t2; t0 acquire m0; t1 acquire m1; "
	for _, pair := range [][2]string{
		{"t0 read x0", "t1 read x0"}, {"t0 write x0", "t1 write x1"}, {"t2 write x0", "t1 acquire m3"},
		{"t0 release m0", "t1 release m1"}, {"t0 acquire m2", "t1 acquire m3"}, {"t0 release m0", "t2 acquire m2"},
		{"t0 see v0", "t1 see v0"}, {"t1 show v0", "t2 show v1"}, {"t0 join t2", "t1 join t2"},
		{"t1 fork t3", "t0 fork t4"}, {"t0 join t2", "t1 read x0"}, {"t1 fork t3", "t2 write x3"},
	} {
		for _, behind := range []string{"", "; t1 read x5", "; t1 read x5; t1 see v3"} {
			l := cases.Events(begin + pair[0] + "; " + pair[1] + behind)
			swapped := cases.Events(begin + pair[1] + "; " + pair[0] + behind)
			wantSwap(t, l, 4, swapped, api.OK)
			wantSwap(t, swapped, 4, l, api.OK)
		}
	}
}

func TestSwapOfDependentEvents(t *testing.T) {
	for _, s := range []string{
		"t0 read x0; t0 read x0", "t0 read x0; t0 read x1", "t0 write x0; t1 read x0", "t1 write x0; t0 write x0", "t1 read x0; t2 write x0",
		"t0 acquire m0; t0 release m0", "t0 release m2; t1 acquire m2", "t0 see v0; t1 show v0", "t1 show v0; t2 see v0", "t1 show v0; t2 show v0",
		"t0 fork t3; t3 read x0", "t0 fork t3; t1 join t3", "t1 read x0; t0 join t1", "t0 join t2; t1 join t0", "t1 fork t3; t0 join t1",
	} {
		l := cases.Events("t0 fork t1; t0 fork t2; t0 fork t4; t0 acquire m2; " + s + "; t4 read x7")
		wantSwap(t, l, 4, nil, api.ErrForm)
		wantSwap(t, l[:6], 4, nil, api.ErrForm)
	}
}

// Both ends of a trace, and the places behind them.
func TestIndicesOfSwap(t *testing.T) {
	l := cases.Events("t0 fork t1; t0 read x0; t1 read x0; t0 read x1")
	wantSwap(t, l, 0, nil, api.ErrForm)
	wantSwap(t, l, 1, cases.Events("t0 fork t1; t1 read x0; t0 read x0; t0 read x1"), api.OK)
	wantSwap(t, l, 2, cases.Events("t0 fork t1; t0 read x0; t0 read x1; t1 read x0"), api.OK)
	wantSwap(t, l, 3, nil, api.ErrArg)
	for n := range len(l) + 1 {
		for _, i := range badIndices(n) {
			wantSwap(t, l[:n], i, nil, api.ErrArg)
		}
	}
	long := append(cases.Events("t0 fork t1"), slices.Repeat(cases.Events("t0 read x0; t1 read x0"), 40)...)[:80]
	wantSwap(t, long, 78, slices.Concat(long[:78], cases.Events("t0 read x0; t1 read x0")), api.OK)
	for _, i := range badIndices(80) {
		wantSwap(t, long, i, nil, api.ErrArg)
	}
}

// P25: Same and Least

// sample is a trace with its least one.
type sample struct{ trace, least string }

// samples returns traces whose least ones were found by reading P24 and P25.
func samples() []sample {
	const begin = "t0 fork t1; t0 fork t2; "
	return []sample{
		{"t0 read x0", "t0 read x0"},
		{"t0 read x1; t0 write x0; t0 read x1", "t0 read x1; t0 write x0; t0 read x1"},
		// The lowest thread goes first, and each thread's events stay in order.
		{begin + "t2 read x0; t1 read x0; t0 read x0", begin + "t0 read x0; t1 read x0; t2 read x0"},
		{begin + "t1 write x1; t0 read x0; t1 read x2; t0 write x0", begin + "t0 read x0; t0 write x0; t1 write x1; t1 read x2"},
		{begin + "t0 read x0; t1 read x0; t2 read x0", begin + "t0 read x0; t1 read x0; t2 read x0"},
		// Whatever the events are of, only threads are compared.
		{begin + "t1 read x0; t0 show v3; t2 acquire m0", begin + "t0 show v3; t1 read x0; t2 acquire m0"},
		// Not ahead of what it depends on.
		{begin + "t1 write x0; t0 write x0", begin + "t1 write x0; t0 write x0"},
		{begin + "t2 read x0; t1 show v0; t0 see v0", begin + "t1 show v0; t0 see v0; t2 read x0"},
		{begin + "t2 acquire m0; t2 release m0; t1 acquire m0; t0 read x0", begin + "t0 read x0; t2 acquire m0; t2 release m0; t1 acquire m0"},
		{begin + "t1 read x0; t0 join t1; t0 read x0", begin + "t1 read x0; t0 join t1; t0 read x0"},
		{begin + "t2 read x0; t1 read x0; t0 join t1", begin + "t1 read x0; t0 join t1; t2 read x0"},
		{begin + "t2 fork t3; t3 write x0; t0 join t3; t1 read x1", begin + "t1 read x1; t2 fork t3; t3 write x0; t0 join t3"},
		{begin + "t2 join t1; t0 join t1", begin + "t0 join t1; t2 join t1"},
		{begin + "t2 join t1; t0 join t2", begin + "t2 join t1; t0 join t2"},
		// A later event goes ahead of lower threads that depend on higher ones.
		{begin + "t2 write x0; t0 write x0; t1 read x1", begin + "t1 read x1; t2 write x0; t0 write x0"},
		{begin + "t2 show v0; t0 see v0; t0 read x1; t1 read x1; t1 read x2", begin + "t1 read x1; t1 read x2; t2 show v0; t0 see v0; t0 read x1"},
		// The first place counts most: not the event that would let a lower thread go on.
		{begin + "t2 show v0; t1 read x0; t1 read x1; t0 see v0", begin + "t1 read x0; t1 read x1; t2 show v0; t0 see v0"},
		// As soon as a thread can go on, it does.
		{begin + "t2 read x0; t1 show v0; t1 read x1; t0 see v0; t0 read x1", begin + "t1 show v0; t0 see v0; t0 read x1; t1 read x1; t2 read x0"},
		{"t0 fork t1; t1 fork t2; t2 read x0; t1 read x0; t0 read x0", "t0 fork t1; t0 read x0; t1 fork t2; t1 read x0; t2 read x0"},
		{"t0 fork t5; t5 read x0; t0 fork t1; t1 read x0", "t0 fork t5; t0 fork t1; t1 read x0; t5 read x0"},
	}
}

func TestSamples(t *testing.T) {
	for _, s := range samples() {
		l, least := cases.Events(s.trace), cases.Events(s.least)
		wantLeast(t, l, least, api.OK)
		wantLeast(t, least, least, api.OK)
		wantSame(t, l, least, true, api.OK)
		wantSame(t, least, l, true, api.OK)
	}
}

func TestTracesThatAreNotEquivalent(t *testing.T) {
	const begin = "t0 fork t1; t0 fork t2; "
	for _, c := range [][2]string{
		// Dependent events in another order.
		{begin + "t0 write x0; t1 write x0", begin + "t1 write x0; t0 write x0"},
		{begin + "t0 read x0; t1 write x0", begin + "t1 write x0; t0 read x0"},
		{begin + "t0 show v0; t1 see v0", begin + "t1 see v0; t0 show v0"},
		{begin + "t0 show v0; t1 show v0", begin + "t1 show v0; t0 show v0"},
		{begin + "t0 acquire m0; t0 release m0; t1 acquire m0; t1 release m0", begin + "t1 acquire m0; t1 release m0; t0 acquire m0; t0 release m0"},
		{begin + "t0 read x0; t0 read x1", begin + "t0 read x1; t0 read x0"},
		{"t0 fork t1; t0 fork t2", "t0 fork t2; t0 fork t1"},
		// The same threads, but other events.
		{begin + "t1 read x0", begin + "t1 read x1"},
		{begin + "t1 read x0", begin + "t1 write x0"},
		{begin + "t1 acquire m0", begin + "t1 show v0"},
		// The same events, but of other threads.
		{begin + "t1 read x0", begin + "t2 read x0"},
		{begin + "t1 read x0; t2 write x1", begin + "t2 read x0; t1 write x1"},
		// An event more, or more than once.
		{begin + "t1 read x0", "t0 fork t1; t0 fork t2"},
		{begin + "t1 read x0", begin + "t1 read x0; t1 read x0"},
		{begin + "t1 read x0; t2 read x0", begin + "t1 read x0; t1 read x0"},
	} {
		a, b := cases.Events(c[0]), cases.Events(c[1])
		wantSame(t, a, b, false, api.OK)
		wantSame(t, b, a, false, api.OK)
	}
}

func TestNoEvents(t *testing.T) {
	for _, l := range [][]api.Event{nil, {}} {
		wantLeast(t, l, nil, api.OK)
		wantSame(t, l, nil, true, api.OK)
		wantSame(t, nil, l, true, api.OK)
		wantSame(t, l, cases.Events("t0 read x0"), false, api.OK)
		wantSame(t, cases.Events("t0 read x0"), l, false, api.OK)
		for _, i := range []int{math.MinInt, -1, 0, 1, math.MaxInt} {
			wantSwap(t, l, i, nil, api.ErrArg)
		}
	}
}

// exchanged returns the events with those at i and i + 1 exchanged.
func exchanged(l []api.Event, i int) []api.Event {
	m := slices.Clone(l)
	m[i], m[i+1] = m[i+1], m[i]
	return m
}

// key returns a string that only lists with the same events have. The numbers of
// events in traces fit into bytes.
func key(l []api.Event) string {
	var b []byte
	for _, e := range l {
		b = append(b, byte(e.Kind), byte(e.Thread), byte(e.Obj))
	}
	return string(b)
}

// reach returns all traces into which exchanges of independent events transform a
// trace, by their keys.
func reach(l []api.Event) map[string][]api.Event {
	found := map[string][]api.Event{key(l): l}
	for todo := [][]api.Event{l}; len(todo) > 0; todo = todo[1:] {
		for i := range len(l) - 1 {
			if !isApart(todo[0][i], todo[0][i+1]) {
				continue
			}
			m := exchanged(todo[0], i)
			if k := key(m); found[k] == nil {
				found[k] = m
				todo = append(todo, m)
			}
		}
	}
	return found
}

func compareThreads(a, b []api.Event) int {
	return slices.CompareFunc(a, b, func(x, y api.Event) int { return x.Thread - y.Thread })
}

// wantSwaps wants what P25 says of all places of a trace, and traces again.
func wantSwaps(t *testing.T, l []api.Event) {
	t.Helper()
	for i := range len(l) - 1 {
		if !isApart(l[i], l[i+1]) {
			wantSwap(t, l, i, nil, api.ErrForm)
			continue
		}
		m := exchanged(l, i)
		wantSwap(t, l, i, m, api.OK)
		wantSwap(t, m, i, l, api.OK)
	}
	for _, i := range badIndices(len(l)) {
		wantSwap(t, l, i, nil, api.ErrArg)
	}
}

// wantReached compares Same and Least with a search.
func wantReached(t *testing.T, l []api.Event) {
	t.Helper()
	found := reach(l)
	wantLeast(t, l, slices.MinFunc(slices.Collect(maps.Values(found)), compareThreads), api.OK)
	for _, m := range found {
		wantSame(t, l, m, true, api.OK)
	}
}

func TestAllShortTraces(t *testing.T) {
	for _, lists := range []iter.Seq[[]api.Event]{cases.Short(), cases.Accesses()} {
		var last []api.Event
		for l := range lists {
			wantSwaps(t, l)
			wantReached(t, l)
			// Most of them differ from the one before in their last event alone.
			wantSame(t, l, last, false, api.OK)
			last = slices.Clone(l)
		}
	}
}

// orders yields all traces that have the given events, in any order.
func orders(l []api.Event) iter.Seq[[]api.Event] {
	return func(yield func([]api.Event) bool) { order(nil, l, yield) }
}

// order yields the traces with a given start. It reports whether there is to be another one.
func order(start, rest []api.Event, yield func([]api.Event) bool) bool {
	if len(rest) == 0 {
		return yield(start)
	}
	for i, e := range rest {
		longer := append(slices.Clone(start), e)
		if _, errno := trace.Check(longer); errno != api.OK {
			continue
		}
		if !order(longer, slices.Delete(slices.Clone(rest), i, i+1), yield) {
			return false
		}
	}
	return true
}

// Traces of the same events in other orders are equivalent only if the search finds them.
func TestOtherOrdersOfEvents(t *testing.T) {
	counts := map[bool]int{}
	for _, lists := range []iter.Seq[[]api.Event]{cases.Short(), cases.Accesses()} {
		n := 0
		for l := range lists {
			if n++; n%100 != 0 {
				continue
			}
			found := reach(l)
			for m := range orders(l) {
				want := found[key(m)] != nil
				wantSame(t, l, m, want, api.OK)
				counts[want]++
			}
		}
	}
	if counts[true] < 1000 || counts[false] < 1000 {
		t.Errorf("too few orders: %v", counts)
	}
}

// A search is still possible for traces that are a bit longer, of more threads.
func TestTracesOfManyThreads(t *testing.T) {
	for seed := range 60 {
		wantReached(t, cases.Long(11, seed))
	}
}

// P25: long traces

// name tells which event of its thread an event is, from 0 on.
type name struct{ thread, n int }

// names returns the names of the events of a trace. They stay the same in equivalent traces.
func names(l []api.Event) []name {
	var counts [6]int
	var all []name
	for _, e := range l {
		all = append(all, name{e.Thread, counts[e.Thread]})
		counts[e.Thread]++
	}
	return all
}

// places returns the index of each name, and the event with it.
func places(l []api.Event) (map[name]int, map[name]api.Event) {
	indices, events := map[name]int{}, map[name]api.Event{}
	for i, which := range names(l) {
		indices[which], events[which] = i, l[i]
	}
	return indices, events
}

// isReordered reports whether m has the events of l, and all that are dependent in
// the same order.
func isReordered(l, m []api.Event) bool {
	_, events := places(l)
	indices, others := places(m)
	if !maps.Equal(events, others) {
		return false
	}
	of := names(l)
	for a := range l {
		for b := a + 1; b < len(l); b++ {
			if !isApart(l[a], l[b]) && indices[of[a]] > indices[of[b]] {
				return false
			}
		}
	}
	return true
}

// isLeast reports whether no event can go ahead of one of a higher thread. A trace
// that is not least has such an event: at the first place where it differs from the
// least one, the event that is there in the least one.
func isLeast(l []api.Event) bool {
	for b := range l {
		for a := b - 1; a >= 0 && isApart(l[a], l[b]); a-- {
			if l[a].Thread > l[b].Thread {
				return false
			}
		}
	}
	return true
}

// swept returns equivalent traces: in each, from left to right, what can be exchanged
// is exchanged.
func swept(l []api.Event, times int) [][]api.Event {
	var all [][]api.Event
	for range times {
		for i := range len(l) - 1 {
			if isApart(l[i], l[i+1]) {
				l = exchanged(l, i)
			}
		}
		all = append(all, l)
	}
	return all
}

func TestLongTraces(t *testing.T) {
	for seed := range 100 {
		l := cases.Long(80-seed%3, seed)
		wantSwaps(t, l)
		least, errno := swap.Least(l)
		if errno != api.OK || !isReordered(l, least) || !isLeast(least) {
			t.Errorf("Least(%v) = %v, %d", l, least, errno)
		}
		for _, m := range swept(l, 10) {
			wantLeast(t, m, least, api.OK)
			wantSame(t, l, m, true, api.OK)
			wantSame(t, m, l, true, api.OK)
		}
	}
}

// Two dependent events in another order, wherever they are, are enough.
func TestLongTracesThatAreNotEquivalent(t *testing.T) {
	count := 0
	for seed := range 100 {
		l := cases.Long(80-seed%3, seed)
		moved := swept(l, 1)[0]
		for i := range len(l) - 1 {
			m := exchanged(l, i)
			if _, errno := trace.Check(m); errno != api.OK || l[i] == l[i+1] || isApart(l[i], l[i+1]) {
				continue
			}
			wantSame(t, l, m, false, api.OK)
			wantSame(t, m, moved, false, api.OK)
			count++
		}
		wantSame(t, l, l[:len(l)-1], false, api.OK)
		wantSame(t, l[:len(l)-1], l, false, api.OK)
	}
	if count < 1000 {
		t.Errorf("only %d traces", count)
	}
}

// namedRace is a race between events that are named.
type namedRace struct {
	a, b           name
	variable, kind int
}

func namedRaces(t *testing.T, l []api.Event) map[namedRace]bool {
	t.Helper()
	races, errno := race.All(l)
	if errno != api.OK {
		t.Fatalf("All(%v): %d", l, errno)
	}
	of := names(l)
	all := map[namedRace]bool{}
	for _, r := range races {
		all[namedRace{of[r.A], of[r.B], r.Var, r.Kind}] = true
	}
	return all
}

// Equivalent traces have the same races and end in the same state.
func TestWhatEquivalentTracesHaveInCommon(t *testing.T) {
	for seed := range 40 {
		l := cases.Long(80-seed%3, seed)
		races := namedRaces(t, l)
		least, _ := swap.Least(l)
		for _, m := range append(swept(l, 5), least) {
			if got := namedRaces(t, m); !maps.Equal(got, races) {
				t.Errorf("races of %v and %v: %v and %v", l, m, races, got)
			}
			for thread := range 6 {
				want, _ := trace.Held(l, thread)
				if got, errno := trace.Held(m, thread); got != want || errno != api.OK {
					t.Errorf("Held(%v, %d) = %d, %d, want %d", m, thread, got, errno, want)
				}
			}
		}
	}
}

// P25: the errors

func TestErrorsOfTraces(t *testing.T) {
	for errno, l := range cases.Invalid() {
		for _, i := range append(badIndices(len(l)), 0, len(l)-2) {
			wantError(t, l, i, errno)
		}
	}
}

// The error of the first trace is before that of the second one.
func TestErrorOfTheFirstTraceIsFirst(t *testing.T) {
	for errno, l := range cases.Invalid() {
		for _, m := range cases.Invalid() {
			wantSame(t, l, m, false, errno)
		}
		wantSame(t, l, nil, false, errno)
		wantSame(t, nil, l, false, errno)
	}
}

// An invalid event is an error wherever the events are that are exchanged, and also
// if it were none in another order.
func TestErrorBehindTheEvents(t *testing.T) {
	l := cases.Events("t0 fork t1; t0 read x0; t1 read x0; t1 write x1; t1 release m0")
	wantSwap(t, l[:4], 1, cases.Events("t0 fork t1; t1 read x0; t0 read x0; t1 write x1"), api.OK)
	wantError(t, l, 1, api.ErrFree)
	wantError(t, l, 0, api.ErrFree)
	wantError(t, cases.Events("t1 read x0; t0 fork t1"), 0, api.ErrState)
	wantError(t, cases.Events("t0 release m0; t0 acquire m0"), 0, api.ErrFree)
}

// P1 and P2

// Whatever a list has, there is no panic, and the error is that of trace.Check.
func TestOddLists(t *testing.T) {
	for l := range cases.Odd() {
		if _, errno := trace.Check(l); errno != api.OK {
			wantError(t, l, 1, errno)
		} else {
			wantSwaps(t, l)
			wantReached(t, l)
		}
	}
}

func TestArgumentsAreNotModified(t *testing.T) {
	other := cases.Long(80, 5)
	if cases.IsChanged(func(l []api.Event) {
		for i := range 80 {
			swap.Swap(l, i)
		}
		swap.Least(l)
		swap.Same(l, other)
		swap.Same(other, l)
	}) {
		t.Error("modified")
	}
}

func TestResultsAreNewlyAllocated(t *testing.T) {
	for _, s := range samples() {
		for _, l := range [][]api.Event{cases.Events(s.trace), cases.Events(s.least)} {
			want := slices.Clone(l)
			if cases.SharesMemory(func() []api.Event { least, _ := swap.Least(l); return least }) {
				t.Errorf("%v: results of Least share memory", l)
			}
			for i := range l {
				if cases.SharesMemory(func() []api.Event { swapped, _ := swap.Swap(l, i); return swapped }) {
					t.Errorf("%v: results of Swap at %d share memory", l, i)
				}
			}
			if !slices.Equal(l, want) {
				t.Errorf("%v: changed with a result, to %v", want, l)
			}
		}
	}
}

func TestResultsDependOnlyOnArguments(t *testing.T) {
	cases.Together(func() {
		for _, s := range samples() {
			l, least := cases.Events(s.trace), cases.Events(s.least)
			wantLeast(t, l, least, api.OK)
			wantSame(t, l, least, true, api.OK)
			wantSwaps(t, l)
		}
		for errno, l := range cases.Invalid() {
			wantError(t, l, 0, errno)
		}
	})
}
