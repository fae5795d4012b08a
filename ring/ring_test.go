package ring_test

import (
	"math"
	"slices"
	"testing"

	"deadheat/api"
	"deadheat/cases"
	"deadheat/ring"
	"deadheat/trace"
)

var badLocks = []int{math.MinInt, -5, -1, 5, 6, 63, 64, 1 << 32, math.MaxInt}

func wantGraph(t *testing.T, l []api.Event, want []api.Pair, wantErrno api.Errno) {
	t.Helper()
	if got, errno := ring.Graph(l); !slices.Equal(got, want) || errno != wantErrno {
		t.Errorf("Graph(%v) = %v, %d, want %v, %d", l, got, errno, want, wantErrno)
	}
}

func wantRing(t *testing.T, p []api.Pair, want []int, wantErrno api.Errno) {
	t.Helper()
	if got, errno := ring.Ring(p); !slices.Equal(got, want) || errno != wantErrno {
		t.Errorf("Ring(%v) = %v, %d, want %v, %d", p, got, errno, want, wantErrno)
	}
}

func wantRank(t *testing.T, p []api.Pair, want []int, wantErrno api.Errno) {
	t.Helper()
	if got, errno := ring.Rank(p); !slices.Equal(got, want) || errno != wantErrno {
		t.Errorf("Rank(%v) = %v, %d, want %v, %d", p, got, errno, want, wantErrno)
	}
}

// wantErrArg wants ErrArg from both functions of pairs, and nothing beside it.
func wantErrArg(t *testing.T, p []api.Pair) {
	t.Helper()
	wantRing(t, p, nil, api.ErrArg)
	wantRank(t, p, nil, api.ErrArg)
}

// sample is a trace with its pairs of locks.
type sample struct{ trace, pairs string }

// samples returns traces whose pairs were found by reading P23.
func samples() []sample {
	return slices.Concat(ofOneThread(), ofSeveralThreads())
}

func ofOneThread() []sample {
	return []sample{
		{"t0 read x0", ""},
		{"t0 acquire m3", ""},
		{"t0 acquire m0; t0 acquire m1", "0-1"},
		{"t0 acquire m4; t0 acquire m2", "4-2"},
		// All locks that it has at that point.
		{"t0 acquire m2; t0 acquire m0; t0 acquire m1", "0-1 2-0 2-1"},
		{"t0 acquire m4; t0 acquire m3; t0 acquire m2; t0 acquire m1; t0 acquire m0",
			"1-0 2-0 2-1 3-0 3-1 3-2 4-0 4-1 4-2 4-3"},
		// Not those that it has released before or acquires after it.
		{"t0 acquire m0; t0 release m0; t0 acquire m1", ""},
		{"t0 acquire m0; t0 acquire m1; t0 release m0; t0 acquire m2", "0-1 1-2"},
		{"t0 acquire m0; t0 acquire m1; t0 release m1; t0 acquire m2", "0-1 0-2"},
		{"t0 acquire m0; t0 acquire m1; t0 release m0; t0 release m1; t0 acquire m2", "0-1"},
		// A lock that it acquires again.
		{"t0 acquire m0; t0 release m0; t0 acquire m0", ""},
		{"t0 acquire m0; t0 release m0; t0 acquire m0; t0 acquire m1", "0-1"},
		{"t0 acquire m2; t0 acquire m1; t0 release m2; t0 acquire m2", "1-2 2-1"},
		// Each pair once.
		{"t0 acquire m3; t0 acquire m1; t0 release m1; t0 acquire m1", "3-1"},
		{"t0 acquire m3; t0 acquire m1; t0 release m1; t0 release m3; t0 acquire m3; t0 acquire m1", "3-1"},
		// Whatever else happens, and whatever has the number of a lock.
		{"t0 acquire m0; t0 read x1; t0 write x2; t0 show v3; t0 see v1; t0 fork t4; t0 join t4", ""},
		{"t0 read x1; t0 fork t3; t0 acquire m0; t0 show v2; t0 acquire m4; t0 write x3", "0-4"},
		{"t0 acquire m0; t0 acquire m1; t0 release m1; t0 release m0", "0-1"},
	}
}

func ofSeveralThreads() []sample {
	const begin = "t0 fork t1; t0 fork t5; "
	return []sample{
		// The locks of other threads do not matter, not even of one that is over.
		{begin + "t0 acquire m0; t1 acquire m1; t5 acquire m2", ""},
		{begin + "t1 acquire m0; t1 acquire m3; t0 join t1; t0 acquire m1", "0-3"},
		{begin + "t0 acquire m0; t0 fork t2; t2 acquire m1", ""},
		{begin + "t5 acquire m0; t1 acquire m4; t5 acquire m2; t1 acquire m1", "0-2 4-1"},
		// What a thread had does not matter as soon as another one has it.
		{begin + "t0 acquire m0; t0 release m0; t1 acquire m0; t0 acquire m1", ""},
		{begin + "t0 acquire m0; t0 release m0; t1 acquire m0; t1 acquire m1", "0-1"},
		{begin + "t1 acquire m0; t1 release m0; t0 acquire m1; t0 acquire m0", "1-0"},
		// The pairs of all threads, in increasing order, each once.
		{begin + "t5 acquire m4; t5 acquire m3; t1 acquire m2; t1 acquire m1; t0 acquire m0", "2-1 4-3"},
		{begin + "t0 acquire m1; t0 acquire m2; t0 release m1; t0 release m2; t1 acquire m1; t1 acquire m2", "1-2"},
		{begin + "t0 acquire m1; t0 acquire m2; t0 release m2; t0 release m1; t1 acquire m2; t1 acquire m1", "1-2 2-1"},
		{begin + "t5 acquire m2; t5 acquire m4; t5 release m4; t0 acquire m4; t5 acquire m1; t1 acquire m0; t0 acquire m3; t5 release m2; t0 acquire m2",
			"2-1 2-4 3-2 4-2 4-3"},
	}
}

// P23: Graph

func TestSamples(t *testing.T) {
	for _, s := range samples() {
		wantGraph(t, cases.Events(s.trace), cases.Pairs(s.pairs), api.OK)
	}
}

func TestNoEvents(t *testing.T) {
	for _, l := range [][]api.Event{nil, {}} {
		wantGraph(t, l, nil, api.OK)
	}
}

// Each two locks have a pair of their own, for each thread.
func TestGraphOfEachTwoLocks(t *testing.T) {
	for a := range 5 {
		for b := range 5 {
			for thread := 1; thread < 6 && a != b; thread++ {
				wantGraph(t, []api.Event{
					{Kind: api.Fork, Obj: thread},
					{Kind: api.Acquire, Thread: thread, Obj: a},
					{Kind: api.Acquire, Thread: thread, Obj: b},
				}, []api.Pair{{A: a, B: b}}, api.OK)
			}
		}
	}
}

// A trace of 80 events can have all pairs of two different locks.
func TestAllPairs(t *testing.T) {
	var l []api.Event
	var want []api.Pair
	for a := range 5 {
		l = append(l, api.Event{Kind: api.Acquire, Obj: a})
		for b := range 5 {
			if b != a {
				l = append(l, api.Event{Kind: api.Acquire, Obj: b}, api.Event{Kind: api.Release, Obj: b})
				want = append(want, api.Pair{A: a, B: b})
			}
		}
		l = append(l, api.Event{Kind: api.Release, Obj: a})
	}
	wantGraph(t, l, want, api.OK)
	l = append(slices.Repeat(cases.Events("t0 read x0"), 80-len(l)), l...)
	wantGraph(t, l, want, api.OK)
}

// isOrdered is P23 in other words: a thread acquires lock a, and then, without
// releasing it in between, lock b.
func isOrdered(l []api.Event, a, b int) bool {
	for i, first := range l {
		if first.Kind != api.Acquire || first.Obj != a {
			continue
		}
		for _, e := range l[i+1:] {
			if e == (api.Event{Kind: api.Release, Thread: first.Thread, Obj: a}) {
				break
			}
			if e == (api.Event{Kind: api.Acquire, Thread: first.Thread, Obj: b}) {
				return true
			}
		}
	}
	return false
}

func wantOrdered(t *testing.T, l []api.Event) {
	t.Helper()
	var want []api.Pair
	for a := range 5 {
		for b := range 5 {
			if isOrdered(l, a, b) {
				want = append(want, api.Pair{A: a, B: b})
			}
		}
	}
	wantGraph(t, l, want, api.OK)
}

func TestAllShortTraces(t *testing.T) {
	for l := range cases.Locks() {
		wantOrdered(t, l)
	}
	for l := range cases.Short() {
		wantOrdered(t, l)
	}
}

func TestLongTraces(t *testing.T) {
	for seed := range 200 {
		wantOrdered(t, cases.Long(80-seed%3, seed))
	}
}

func TestPrefixes(t *testing.T) {
	for seed := range 20 {
		l := cases.Long(80, seed)
		for n := range len(l) + 1 {
			wantOrdered(t, l[:n])
		}
	}
}

func TestErrorsOfTraces(t *testing.T) {
	for errno, l := range cases.Invalid() {
		wantGraph(t, l, nil, errno)
	}
}

// An invalid event behind pairs is an error, and what was before it is no result.
func TestErrorBehindPairs(t *testing.T) {
	l := cases.Events("t0 fork t1; t0 acquire m0; t0 acquire m1; t1 acquire m0")
	wantGraph(t, l[:3], cases.Pairs("0-1"), api.OK)
	wantGraph(t, l, nil, api.ErrHeld)
	l[3] = api.Event{Kind: api.Acquire, Obj: 5}
	wantGraph(t, l, nil, api.ErrArg)
	l[3] = api.Event{Kind: api.Acquire, Thread: 2, Obj: 2}
	wantGraph(t, l, nil, api.ErrState)
	wantGraph(t, slices.Repeat(l[:3], 30), nil, api.ErrLarge)
}

// P23: Ring and Rank

func TestRing(t *testing.T) {
	for _, c := range []struct {
		pairs string
		want  []int
	}{
		{"1-2 2-1", []int{1, 2}},
		{"2-1 1-2", []int{1, 2}},
		// A lock that is A and B of one pair is a cycle.
		{"0-0", []int{0}},
		{"4-4", []int{4}},
		{"3-3 1-1", []int{1}},
		// Pairs that only look like a cycle.
		{"0-1 0-2 1-2", nil},
		{"0-1 2-1 2-3 0-3", nil},
		{"4-3 3-2 2-1 1-0", nil},
		{"0-1 1-2 0-3 3-2 0-4 4-2", nil},
		// It begins with its smallest lock and goes on from A to B.
		{"2-0 0-1 1-2", []int{0, 1, 2}},
		{"0-2 2-1 1-0", []int{0, 2, 1}},
		{"4-2 2-3 3-4", []int{2, 3, 4}},
		{"0-4 4-3 3-2 2-1 1-0", []int{0, 4, 3, 2, 1}},
		{"3-1 1-4 4-0 0-2 2-3", []int{0, 2, 3, 1, 4}},
		// One with fewer locks is before one that begins with a smaller lock.
		{"0-1 1-2 2-0 4-3 3-4", []int{3, 4}},
		{"0-1 1-0 4-4", []int{4}},
		{"0-1 1-2 2-3 3-4 4-0 3-2", []int{2, 3}},
		{"0-1 1-2 2-3 3-4 4-0 4-2", []int{2, 3, 4}},
		{"0-1 1-2 2-3 3-0 0-4 4-2", []int{0, 1, 2, 3}},
		// Of those with as many locks, the smallest one.
		{"3-4 4-3 1-2 2-1", []int{1, 2}},
		{"0-4 4-0 0-1 1-0", []int{0, 1}},
		{"0-4 4-0 1-2 2-1", []int{0, 4}},
		{"0-2 2-4 4-0 2-1 1-0", []int{0, 2, 1}},
		{"0-1 1-4 4-3 3-0 0-2 2-3", []int{0, 2, 3}},
		{"0-1 1-3 3-4 4-0 1-2 2-4", []int{0, 1, 2, 4}},
		// A smaller lock that leads nowhere, or not back in time, is passed over.
		{"0-1 0-3 3-4 4-0", []int{0, 3, 4}},
		{"0-1 1-2 2-3 0-4 4-0", []int{0, 4}},
		{"0-1 1-2 2-4 3-2 4-3", []int{2, 4, 3}},
		// Pairs that are there more than once.
		{"1-2 1-2 2-1 2-1 1-2", []int{1, 2}},
		{"1-2 1-2 1-2", nil},
	} {
		wantRing(t, cases.Pairs(c.pairs), c.want, api.OK)
		if len(c.want) > 0 {
			wantRank(t, cases.Pairs(c.pairs), nil, api.ErrForm)
		}
	}
}

func TestRank(t *testing.T) {
	for _, c := range []struct {
		pairs string
		want  []int
	}{
		{"0-1", []int{0, 1, 0, 0, 0}},
		{"4-2", []int{0, 0, 1, 0, 0}},
		// The order of the pairs does not matter, nor that of the numbers.
		{"0-1 1-2 2-3 3-4", []int{0, 1, 2, 3, 4}},
		{"3-4 2-3 1-2 0-1", []int{0, 1, 2, 3, 4}},
		{"4-3 3-2 2-1 1-0", []int{4, 3, 2, 1, 0}},
		{"3-0 1-4 0-1 4-2", []int{1, 2, 4, 0, 3}},
		// The longest chain counts, not the shortest one or the sum of several.
		{"0-3 3-1 0-1", []int{0, 2, 0, 1, 0}},
		{"0-1 0-2 0-3 1-2 1-3 2-3", []int{0, 1, 2, 3, 0}},
		{"0-4 1-4 2-4 3-4", []int{0, 0, 0, 0, 1}},
		{"0-1 1-4 0-2 2-3 3-4", []int{0, 1, 1, 2, 3}},
		{"0-2 1-2 2-3 2-4", []int{0, 0, 1, 2, 2}},
		// What begins at a lock does not count.
		{"2-0 2-1 2-3 2-4", []int{1, 1, 0, 1, 1}},
		// Chains that have nothing to do with each other.
		{"1-0 4-3 3-2", []int{1, 0, 2, 1, 0}},
		// A pair that is there more than once does not follow itself.
		{"0-1 0-1 0-1", []int{0, 1, 0, 0, 0}},
		{"1-2 0-1 1-2 0-1", []int{0, 1, 2, 0, 0}},
	} {
		wantRank(t, cases.Pairs(c.pairs), c.want, api.OK)
		wantRing(t, cases.Pairs(c.pairs), nil, api.OK)
	}
}

func TestNoPairs(t *testing.T) {
	for _, p := range [][]api.Pair{nil, {}} {
		wantRing(t, p, nil, api.OK)
		wantRank(t, p, []int{0, 0, 0, 0, 0}, api.OK)
	}
}

// allLists returns all lists of one to five locks.
func allLists() [][]int {
	lists := [][]int{nil}
	for begin := 0; len(lists[begin]) < 5; begin++ {
		for lock := range 5 {
			lists = append(lists, append(slices.Clone(lists[begin]), lock))
		}
	}
	return lists[1:]
}

func isCycle(list []int, p []api.Pair) bool {
	for i, lock := range list {
		if !slices.Contains(p, api.Pair{A: lock, B: list[(i+1)%len(list)]}) {
			return false
		}
	}
	return true
}

// smallestCycle looks at all the lists, as P23 says what is a cycle.
func smallestCycle(lists [][]int, p []api.Pair) []int {
	var best []int
	for _, list := range lists {
		isBetter := best == nil || len(list) < len(best) ||
			len(list) == len(best) && slices.Compare(list, best) < 0
		if isBetter && isCycle(list, p) {
			best = list
		}
	}
	return best
}

// longestChains finds where the chains with one pair more end, until there are none.
// The second result is false if they do not come to an end.
func longestChains(p []api.Pair) ([]int, bool) {
	longest := make([]int, 5)
	ends := map[int]bool{0: true, 1: true, 2: true, 3: true, 4: true}
	for n := 1; len(ends) > 0; n++ {
		if n > 20 {
			return nil, false
		}
		further := map[int]bool{}
		for _, pair := range p {
			if ends[pair.A] {
				further[pair.B] = true
				longest[pair.B] = n
			}
		}
		ends = further
	}
	return longest, true
}

func wantFound(t *testing.T, lists [][]int, p []api.Pair) {
	t.Helper()
	cycle := smallestCycle(lists, p)
	longest, ends := longestChains(p)
	if ends != (cycle == nil) {
		t.Fatalf("%v: the test itself is wrong: cycle %v, chains %v", p, cycle, longest)
	}
	wantRing(t, p, cycle, api.OK)
	if ends {
		wantRank(t, p, longest, api.OK)
	} else {
		wantRank(t, p, nil, api.ErrForm)
	}
}

// selected returns the pairs whose bits are 1.
func selected(p []api.Pair, bits int) []api.Pair {
	var some []api.Pair
	for i, pair := range p {
		if bits>>i&1 == 1 {
			some = append(some, pair)
		}
	}
	return some
}

func TestAllPairsOfThreeLocks(t *testing.T) {
	lists := allLists()
	all := cases.Pairs("0-0 0-2 0-3 2-0 2-2 2-3 3-0 3-2 3-3")
	for bits := range 1 << len(all) {
		wantFound(t, lists, selected(all, bits))
	}
}

func TestAllPairsOfFourDifferentLocks(t *testing.T) {
	lists := allLists()
	all := cases.Pairs("4-3 4-2 4-1 3-4 3-2 3-1 2-4 2-3 2-1 1-4 1-3 1-2")
	for bits := range 1 << len(all) {
		wantFound(t, lists, selected(all, bits))
	}
}

// All pairs of five locks that follow one order of them, for two orders.
func TestAllPairsThatFollowAnOrder(t *testing.T) {
	lists := allLists()
	for _, locks := range [][]int{{0, 1, 2, 3, 4}, {3, 0, 4, 2, 1}} {
		var all []api.Pair
		for i, a := range locks {
			for _, b := range locks[i+1:] {
				all = append(all, api.Pair{A: a, B: b})
			}
		}
		for bits := range 1 << len(all) {
			wantFound(t, lists, selected(all, bits))
		}
	}
}

// Pairs of any locks, in any order; some of them are there more than once.
func TestManyPairs(t *testing.T) {
	lists := allLists()
	below := cases.Chooser(1)
	lengths := map[int]int{}
	for range 3000 {
		var p []api.Pair
		for range below(14) {
			if pair := (api.Pair{A: below(5), B: below(5)}); pair.A != pair.B || below(20) == 0 {
				p = append(p, pair)
			}
		}
		lengths[len(smallestCycle(lists, p))]++
		wantFound(t, lists, p)
	}
	for n := range 6 {
		if lengths[n] == 0 {
			t.Errorf("no smallest cycle of %d locks: %v", n, lengths)
		}
	}
}

func TestAllPairsOfLocks(t *testing.T) {
	var all []api.Pair
	for a := range 5 {
		for b := range 5 {
			p := []api.Pair{{A: a, B: b}}
			all = append(all, p...)
			if a == b {
				wantRing(t, p, []int{a}, api.OK)
				wantRank(t, p, nil, api.ErrForm)
				continue
			}
			want := make([]int, 5)
			want[b] = 1
			wantRing(t, p, nil, api.OK)
			wantRank(t, p, want, api.OK)
		}
	}
	wantRing(t, all, []int{0}, api.OK)
	wantRank(t, all, nil, api.ErrForm)
}

// There is no limit for the number of pairs.
func TestVeryManyPairs(t *testing.T) {
	p := slices.Repeat(cases.Pairs("3-2 0-1 2-0 4-3 4-0 3-1"), 50000)
	wantRing(t, p, nil, api.OK)
	wantRank(t, p, []int{3, 4, 2, 1, 0}, api.OK)
	p = append(p, api.Pair{A: 1, B: 4})
	wantRing(t, p, []int{0, 1, 4}, api.OK)
	wantRank(t, p, nil, api.ErrForm)
	wantErrArg(t, append(p, api.Pair{A: 1, B: 5}))
}

// The pairs of a trace have a cycle if and only if locks were acquired in different
// orders. Rank tells an order in which all of them were acquired.
func TestOrdersOfTraces(t *testing.T) {
	for l := range cases.Locks() {
		p, _ := ring.Graph(l)
		cycle, _ := ring.Ring(p)
		ranks, errno := ring.Rank(p)
		if (errno == api.OK) != (len(cycle) == 0) || errno != api.OK && errno != api.ErrForm {
			t.Errorf("%v: cycle %v, ranks %v, %d", l, cycle, ranks, errno)
		}
		for _, pair := range p {
			if errno == api.OK && ranks[pair.A] >= ranks[pair.B] {
				t.Errorf("%v: ranks %v of %v", l, ranks, p)
			}
		}
	}
}

// P23: the errors

// Wherever a number is that is no lock, and whatever is beside it.
func TestWhatIsNoLock(t *testing.T) {
	for _, bad := range badLocks {
		for _, s := range []string{"0-1", "0-1 1-2 2-3", "1-2 2-1", "0-0", "0-1 1-0 3-3"} {
			p := cases.Pairs(s)
			for i := range len(p) + 1 {
				wantErrArg(t, slices.Insert(slices.Clone(p), i, api.Pair{A: bad, B: 1}))
				wantErrArg(t, slices.Insert(slices.Clone(p), i, api.Pair{A: 1, B: bad}))
				wantErrArg(t, slices.Insert(slices.Clone(p), i, api.Pair{A: bad, B: bad}))
			}
		}
		for good := range 5 {
			wantErrArg(t, []api.Pair{{A: bad, B: good}})
			wantErrArg(t, []api.Pair{{A: good, B: bad}})
		}
		for _, other := range badLocks {
			wantErrArg(t, []api.Pair{{A: bad, B: other}})
		}
	}
}

// P1 and P2

// Whatever a list has, there is no panic, and the error is that of trace.Check.
func TestOddLists(t *testing.T) {
	for l := range cases.Odd() {
		if _, errno := trace.Check(l); errno != api.OK {
			wantGraph(t, l, nil, errno)
		} else {
			wantOrdered(t, l)
		}
	}
}

func TestEventsAreNotModified(t *testing.T) {
	if cases.IsChanged(func(l []api.Event) { ring.Graph(l) }) {
		t.Error("modified")
	}
}

func TestPairsAreNotModified(t *testing.T) {
	p := cases.Pairs("3-1 0-3 0-1 1-2 0-1 2-3 4-4 9-0 1-1")
	want := slices.Clone(p)
	for n := range len(p) + 1 {
		ring.Ring(p[:n])
		ring.Rank(p[:n])
	}
	if !slices.Equal(p, want) {
		t.Errorf("modified: %v", p)
	}
}

func TestResultsAreNewlyAllocated(t *testing.T) {
	for _, s := range samples() {
		l := cases.Events(s.trace)
		if cases.SharesMemory(func() []api.Pair { p, _ := ring.Graph(l); return p }) {
			t.Errorf("%s: results share memory", s.trace)
		}
		wantGraph(t, l, cases.Pairs(s.pairs), api.OK)
	}
	for _, s := range []string{"", "0-1 1-2", "1-1", "1-2 2-1", "0-4 4-3 3-2 2-1 1-0"} {
		p := cases.Pairs(s)
		cycle := func() []int { cycle, _ := ring.Ring(p); return cycle }
		ranks := func() []int { ranks, _ := ring.Rank(p); return ranks }
		if cases.SharesMemory(cycle) || cases.SharesMemory(ranks) {
			t.Errorf("%s: results share memory", s)
		}
	}
}

func TestResultsDependOnlyOnArguments(t *testing.T) {
	cases.Together(func() {
		for _, s := range samples() {
			wantGraph(t, cases.Events(s.trace), cases.Pairs(s.pairs), api.OK)
		}
		for errno, l := range cases.Invalid() {
			wantGraph(t, l, nil, errno)
		}
		wantRing(t, cases.Pairs("1-2 2-1"), []int{1, 2}, api.OK)
		wantRing(t, cases.Pairs("1-2 2-3"), nil, api.OK)
		wantRank(t, cases.Pairs("1-2 2-3"), []int{0, 0, 1, 2, 0}, api.OK)
		wantRank(t, cases.Pairs("1-2 2-1"), nil, api.ErrForm)
		wantErrArg(t, cases.Pairs("1-2 2-5"))
	})
}
