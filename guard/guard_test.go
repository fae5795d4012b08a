package guard_test

import (
	"iter"
	"math"
	"slices"
	"testing"

	"deadheat/api"
	"deadheat/cases"
	"deadheat/guard"
	"deadheat/trace"
)

var badVars = []int{math.MinInt, -8, -1, 8, 9, 1 << 32, math.MaxInt}

// The wanted guards are those of some variables; all others are as P21 begins.
func wantGuards(t *testing.T, l []api.Event, some map[int]api.Guard) {
	t.Helper()
	var want [8]api.Guard
	for x := range want {
		want[x] = api.Guard{Locks: 31}
		if g, is := some[x]; is {
			want[x] = g
		}
	}
	if got, errno := guard.Guards(l); got != want || errno != api.OK {
		t.Errorf("Guards(%v) = %v, %d, want %v", l, got, errno, want)
	}
}

func wantWarns(t *testing.T, l []api.Event, want []api.Flag) {
	t.Helper()
	if got, errno := guard.Warns(l); !slices.Equal(got, want) || errno != api.OK {
		t.Errorf("Warns(%v) = %v, %d, want %v", l, got, errno, want)
	}
}

func wantCommon(t *testing.T, l []api.Event, x, want int, wantErrno api.Errno) {
	t.Helper()
	if got, errno := guard.Common(l, x); got != want || errno != wantErrno {
		t.Errorf("Common(%v, %d) = %d, %d, want %d, %d", l, x, got, errno, want, wantErrno)
	}
}

// wantError wants the same error from all functions, and zero values beside it.
func wantError(t *testing.T, l []api.Event, x int, want api.Errno) {
	t.Helper()
	if got, errno := guard.Guards(l); got != [8]api.Guard{} || errno != want {
		t.Errorf("Guards(%v) = %v, %d, want %d", l, got, errno, want)
	}
	if got, errno := guard.Warns(l); len(got) != 0 || errno != want {
		t.Errorf("Warns(%v) = %v, %d, want %d", l, got, errno, want)
	}
	wantCommon(t, l, x, 0, want)
}

// sample is a trace with the guard of variable 1 at its end, the indices of the
// accesses with a warning (all of them are of variable 1), and the common locks of
// variable 1.
type sample struct {
	trace  string
	guard  api.Guard
	warns  []int
	common int
}

// samples returns traces whose results were found by following P21 and P22.
func samples() []sample {
	return slices.Concat(owned(), second(), later(), held())
}

func wantSample(t *testing.T, s sample) {
	t.Helper()
	l := cases.Events(s.trace)
	var warns []api.Flag
	for _, at := range s.warns {
		warns = append(warns, api.Flag{At: at, Var: 1})
	}
	wantGuards(t, l, map[int]api.Guard{1: s.guard})
	wantWarns(t, l, warns)
	wantCommon(t, l, 1, s.common, api.OK)
}

func aNew() api.Guard                    { return api.Guard{State: 0, Locks: 31} }
func own(thread int) api.Guard           { return api.Guard{State: 1, Thread: thread, Locks: 31} }
func shared(thread, locks int) api.Guard { return api.Guard{State: 2, Thread: thread, Locks: locks} }
func dirty(thread, locks int) api.Guard  { return api.Guard{State: 3, Thread: thread, Locks: locks} }

// owned returns traces in which at most one thread has accesses of the variable.
func owned() []sample {
	return []sample{
		{"t0 fork t1; t0 acquire m3; t0 show v1; t0 see v1; t0 release m3; t0 join t1", aNew(), nil, 31},
		{"t0 read x1", own(0), nil, 0},
		{"t0 write x1", own(0), nil, 0},
		{"t0 fork t5; t5 read x1", own(5), nil, 0},
		{"t0 fork t5; t5 write x1", own(5), nil, 0},
		{"t0 fork t5; t5 acquire m3; t5 write x1", own(5), nil, 8},
		// Its locks do not matter, nor do several accesses.
		{"t0 read x1; t0 write x1; t0 read x1; t0 write x1", own(0), nil, 0},
		{"t0 acquire m0; t0 write x1; t0 release m0; t0 acquire m2; t0 write x1", own(0), nil, 0},
		{"t0 acquire m0; t0 acquire m2; t0 write x1; t0 release m0; t0 write x1", own(0), nil, 4},
		{"t0 write x1; t0 acquire m4; t0 write x1", own(0), nil, 0},
		{"t0 fork t1; t1 acquire m4; t1 read x1; t1 release m4; t1 write x1; t1 read x1", own(1), nil, 0},
		// Nor do other events of other threads.
		{"t0 fork t1; t1 write x1; t1 acquire m1; t0 acquire m2; t0 join t1", own(1), nil, 0},
	}
}

// second returns traces that end with the first access by another thread.
func second() []sample {
	const begin = "t0 fork t1; t0 fork t2; "
	return []sample{
		{begin + "t0 read x1; t1 read x1", shared(0, 0), nil, 0},
		{begin + "t0 write x1; t1 read x1", shared(0, 0), nil, 0},
		{begin + "t0 read x1; t1 write x1", dirty(0, 0), []int{3}, 0},
		{begin + "t0 write x1; t1 write x1", dirty(0, 0), []int{3}, 0},
		{begin + "t2 write x1; t0 write x1", dirty(2, 0), []int{3}, 0},
		{begin + "t2 write x1; t0 read x1", shared(2, 0), nil, 0},
		// Only the locks of that access count in the guard, but all of them are common.
		{begin + "t0 acquire m3; t0 write x1; t1 write x1", dirty(0, 0), []int{4}, 0},
		{begin + "t0 acquire m3; t0 write x1; t1 read x1", shared(0, 0), nil, 0},
		{begin + "t0 write x1; t1 acquire m3; t1 write x1", dirty(0, 8), nil, 0},
		{begin + "t0 write x1; t1 acquire m3; t1 read x1", shared(0, 8), nil, 0},
		{begin + "t2 acquire m0; t2 write x1; t1 acquire m3; t1 acquire m4; t1 write x1", dirty(2, 24), nil, 0},
		{begin + "t2 acquire m0; t2 write x1; t1 acquire m3; t1 acquire m4; t1 read x1", shared(2, 24), nil, 0},
		{begin + "t0 acquire m4; t0 write x1; t0 release m4; t1 acquire m4; t1 write x1", dirty(0, 16), nil, 16},
		{begin + "t0 acquire m4; t0 write x1; t0 release m4; t1 acquire m4; t1 acquire m1; t1 read x1", shared(0, 18), nil, 16},
		// All locks at once.
		{begin + "t0 write x1; t1 acquire m0; t1 acquire m1; t1 acquire m2; t1 acquire m3; t1 acquire m4; t1 write x1", dirty(0, 31), nil, 0},
		// The happens-before order does not matter.
		{"t0 write x1; t0 fork t1; t1 write x1", dirty(0, 0), []int{2}, 0},
		{"t0 fork t1; t1 write x1; t0 join t1; t0 write x1", dirty(1, 0), []int{3}, 0},
		{"t0 fork t1; t0 write x1; t0 show v0; t1 see v0; t1 write x1", dirty(0, 0), []int{4}, 0},
		{"t0 fork t1; t0 write x1; t0 acquire m0; t0 release m0; t1 acquire m0; t1 release m0; t1 write x1", dirty(0, 0), []int{6}, 0},
	}
}

// later returns traces with accesses after that.
func later() []sample {
	const readers = "t0 fork t1; t0 read x1; t1 acquire m0; t1 acquire m1; t1 read x1; t1 release m0; "
	const writers = "t0 fork t1; t0 read x1; t1 acquire m0; t1 acquire m1; t1 write x1; t1 release m0; "
	return []sample{
		// Reads leave it Shared, whoever reads, and never lead to a warning.
		{readers + "t1 read x1", shared(0, 2), nil, 0},
		{readers + "t0 acquire m0; t0 read x1", shared(0, 1), nil, 0},
		{readers + "t0 acquire m2; t0 read x1", shared(0, 0), nil, 0},
		{readers + "t0 read x1; t1 read x1", shared(0, 0), nil, 0},
		{readers + "t0 fork t2; t2 acquire m0; t2 read x1", shared(0, 1), nil, 0},
		// A Write makes it Dirty, also one by the thread of the guard or of the last access.
		{readers + "t1 write x1", dirty(0, 2), nil, 0},
		{readers + "t0 acquire m0; t0 write x1", dirty(0, 1), nil, 0},
		{readers + "t0 acquire m2; t0 write x1", dirty(0, 0), []int{7}, 0},
		{readers + "t0 write x1", dirty(0, 0), []int{6}, 0},
		{readers + "t1 release m1; t1 write x1", dirty(0, 0), []int{7}, 0},
		{readers + "t0 fork t2; t2 write x1", dirty(0, 0), []int{7}, 0},
		// Locks that are gone do not come back.
		{readers + "t1 read x1; t1 acquire m0; t1 read x1", shared(0, 2), nil, 0},
		{readers + "t1 release m1; t1 read x1; t1 acquire m1; t1 write x1", dirty(0, 0), []int{9}, 0},
		{writers + "t1 read x1; t1 acquire m0; t1 write x1", dirty(0, 2), nil, 0},
		// It stays Dirty, and each access can have a warning, also a Read.
		{writers + "t1 read x1", dirty(0, 2), nil, 0},
		{writers + "t1 write x1", dirty(0, 2), nil, 0},
		{writers + "t0 acquire m0; t0 read x1", dirty(0, 1), nil, 0},
		{writers + "t0 acquire m0; t0 read x1; t0 acquire m2; t0 write x1", dirty(0, 1), nil, 0},
		{writers + "t0 acquire m0; t0 read x1; t1 read x1", dirty(0, 0), []int{8}, 0},
		{writers + "t0 acquire m0; t0 write x1; t1 write x1", dirty(0, 0), []int{8}, 0},
		{writers + "t0 read x1", dirty(0, 0), []int{6}, 0},
		{writers + "t0 write x1; t1 read x1; t0 read x1; t1 write x1", dirty(0, 0), []int{6, 7, 8, 9}, 0},
		{writers + "t0 write x1; t1 acquire m0; t1 write x1; t1 release m0; t1 read x1", dirty(0, 0), []int{6, 8, 10}, 0},
		{writers + "t0 fork t2; t2 read x1; t2 write x1", dirty(0, 0), []int{7, 8}, 0},
		// The locks of the thread that had it first are common, but not in the guard.
		{"t0 fork t1; t0 acquire m0; t0 acquire m1; t0 write x1; t0 release m0; t0 write x1; t0 release m1; t1 acquire m0; t1 acquire m1; t1 write x1", dirty(0, 3), nil, 2},
		{"t0 fork t1; t0 acquire m0; t0 write x1; t0 release m0; t1 acquire m0; t1 read x1; t1 release m0; t0 acquire m0; t0 write x1", dirty(0, 1), nil, 1},
	}
}

// held returns traces in which it matters which locks a thread has at an access.
func held() []sample {
	const begin = "t0 fork t1; t0 write x1; "
	return []sample{
		// Those that it has acquired and not released before it.
		{begin + "t1 acquire m2; t1 release m2; t1 write x1", dirty(0, 0), []int{4}, 0},
		{begin + "t1 acquire m2; t1 write x1; t1 release m2", dirty(0, 4), nil, 0},
		{begin + "t1 write x1; t1 acquire m2", dirty(0, 0), []int{2}, 0},
		{begin + "t1 acquire m2; t1 acquire m4; t1 release m2; t1 write x1", dirty(0, 16), nil, 0},
		{begin + "t1 acquire m2; t1 release m2; t1 acquire m2; t1 write x1", dirty(0, 4), nil, 0},
		{begin + "t1 acquire m0; t1 write x1; t1 release m0; t1 acquire m0; t1 write x1", dirty(0, 1), nil, 0},
		// Not those of other threads, not even of one that is over.
		{begin + "t0 acquire m2; t1 write x1", dirty(0, 0), []int{3}, 0},
		{begin + "t0 acquire m2; t1 acquire m3; t1 write x1", dirty(0, 8), nil, 0},
		{begin + "t0 acquire m2; t1 join t0; t1 write x1", dirty(0, 0), []int{4}, 0},
		{"t0 acquire m2; t0 fork t1; t0 write x1; t1 write x1", dirty(0, 0), []int{3}, 0},
		{begin + "t0 acquire m2; t0 release m2; t1 acquire m2; t1 write x1", dirty(0, 4), nil, 0},
	}
}

// P21 and P22

func TestSamples(t *testing.T) {
	for _, s := range samples() {
		wantSample(t, s)
	}
}

func TestNoEvents(t *testing.T) {
	for _, l := range [][]api.Event{nil, {}} {
		wantGuards(t, l, nil)
		wantWarns(t, l, nil)
		for x := range 8 {
			wantCommon(t, l, x, 31, api.OK)
		}
	}
}

// Each lock is the bit with its number.
func TestEachLock(t *testing.T) {
	for lock := range 5 {
		l := append(cases.Events("t0 fork t1; t0 write x1"),
			api.Event{Kind: api.Acquire, Thread: 1, Obj: lock}, api.Event{Kind: api.Write, Thread: 1, Obj: 1}, api.Event{Kind: api.Write, Thread: 1, Obj: 6})
		wantGuards(t, l, map[int]api.Guard{1: dirty(0, 1<<lock), 6: own(1)})
		wantCommon(t, l, 1, 0, api.OK)
		wantCommon(t, l, 6, 1<<lock, api.OK)
	}
}

// Each variable has a guard of its own, and the flags are in the order of the accesses.
func TestSeveralVariables(t *testing.T) {
	l := cases.Events("t0 fork t1; t0 write x7; t0 acquire m1; t0 write x0; t0 read x3; t0 read x4; " +
		"t1 write x7; t1 acquire m2; t1 read x7; t1 write x3; t1 read x4; t0 read x3; t1 write x0; t0 write x0; t1 write x5")
	wantGuards(t, l, map[int]api.Guard{0: dirty(0, 0), 3: dirty(0, 0), 4: shared(0, 4), 5: own(1), 7: dirty(0, 0)})
	wantWarns(t, l, []api.Flag{{At: 6, Var: 7}, {At: 8, Var: 7}, {At: 11, Var: 3}, {At: 13, Var: 0}})
	for x, want := range []int{0, 31, 31, 0, 0, 4, 31, 0} {
		wantCommon(t, l, x, want, api.OK)
	}
}

// In the longest traces, all accesses of the second thread can have a warning.
func TestLongestTraces(t *testing.T) {
	l := append(cases.Events("t0 fork t1; t0 write x6"), slices.Repeat(cases.Events("t1 write x6"), 78)...)
	var want []api.Flag
	for at := 2; at < 80; at++ {
		want = append(want, api.Flag{At: at, Var: 6})
	}
	wantWarns(t, l, want)
	wantGuards(t, l, map[int]api.Guard{6: dirty(0, 0)})
}

// locksAt returns the locks that the thread of event i has: those whose last event
// before i is an Acquire by it.
func locksAt(l []api.Event, i int) int {
	var locks int
	for lock := range 5 {
		for b := i - 1; b >= 0; b-- {
			if e := l[b]; e.Obj == lock && (e.Kind == api.Acquire || e.Kind == api.Release) {
				if e == (api.Event{Kind: api.Acquire, Thread: l[i].Thread, Obj: lock}) {
					locks |= 1 << lock
				}
				break
			}
		}
	}
	return locks
}

// expected is what P21 and P22 come to for the accesses of one variable.
type expected struct {
	guard  api.Guard
	warns  []int
	common int
}

// expect finds the results without states: what counts in the guard begins with the
// first access by another thread than that of the first access.
func expect(l []api.Event, x int) expected {
	all := accessesOf(l, x)
	if len(all) == 0 {
		return expected{guard: aNew(), common: 31}
	}
	first := l[all[0]].Thread
	result := expected{guard: own(first), common: meet(l, all)}
	begin := slices.IndexFunc(all, func(i int) bool { return l[i].Thread != first })
	if begin == -1 {
		return result
	}
	for n := begin; n < len(all); n++ {
		counting := all[begin : n+1]
		locks := meet(l, counting)
		result.guard = shared(first, locks)
		if slices.ContainsFunc(counting, func(i int) bool { return l[i].Kind == api.Write }) {
			result.guard = dirty(first, locks)
			if locks == 0 {
				result.warns = append(result.warns, all[n])
			}
		}
	}
	return result
}

func accessesOf(l []api.Event, x int) []int {
	var all []int
	for i, e := range l {
		if e.Obj == x && (e.Kind == api.Read || e.Kind == api.Write) {
			all = append(all, i)
		}
	}
	return all
}

// meet returns the locks that threads had at all of some events.
func meet(l []api.Event, indices []int) int {
	locks := 31
	for _, i := range indices {
		locks &= locksAt(l, i)
	}
	return locks
}

func wantExpected(t *testing.T, l []api.Event) {
	t.Helper()
	guards := map[int]api.Guard{}
	var warns []api.Flag
	for x := range 8 {
		want := expect(l, x)
		guards[x] = want.guard
		for _, at := range want.warns {
			warns = append(warns, api.Flag{At: at, Var: x})
		}
		wantCommon(t, l, x, want.common, api.OK)
	}
	slices.SortFunc(warns, func(a, b api.Flag) int { return a.At - b.At })
	wantGuards(t, l, guards)
	wantWarns(t, l, warns)
}

func TestAllShortTraces(t *testing.T) {
	for l := range cases.Accesses() {
		wantExpected(t, l)
	}
	for l := range cases.Short() {
		wantExpected(t, l)
	}
}

func TestLongTraces(t *testing.T) {
	for seed := range 200 {
		wantExpected(t, cases.Long(80-seed%3, seed))
	}
}

func TestPrefixes(t *testing.T) {
	for seed := range 20 {
		l := cases.Long(80, seed)
		for n := range len(l) + 1 {
			wantExpected(t, l[:n])
		}
	}
}

// guarded yields all traces of up to so many accesses of a variable, each by one of
// three threads that has some of two locks meanwhile.
func guarded(accesses int) iter.Seq[[]api.Event] {
	return func(yield func([]api.Event) bool) {
		_ = addGuarded(cases.Events("t0 fork t1; t0 fork t2"), accesses, yield)
	}
}

// addGuarded yields a trace and those with up to so many accesses more. It reports
// whether there is to be another trace.
func addGuarded(l []api.Event, more int, yield func([]api.Event) bool) bool {
	if !yield(l) {
		return false
	}
	if more == 0 {
		return true
	}
	for thread := range 3 {
		for _, kind := range []int{api.Read, api.Write} {
			for locks := range 4 {
				longer := slices.Concat(l, lockEvents(api.Acquire, thread, locks),
					[]api.Event{{Kind: kind, Thread: thread, Obj: 3}}, lockEvents(api.Release, thread, locks))
				if !addGuarded(longer, more-1, yield) {
					return false
				}
			}
		}
	}
	return true
}

func lockEvents(kind, thread, locks int) []api.Event {
	var l []api.Event
	for lock := range 2 {
		if locks>>lock&1 == 1 {
			l = append(l, api.Event{Kind: kind, Thread: thread, Obj: lock})
		}
	}
	return l
}

func TestAllLocksOfFewAccesses(t *testing.T) {
	count := 0
	for l := range guarded(3) {
		wantExpected(t, l)
		count++
	}
	if count != 1+24+24*24+24*24*24 {
		t.Errorf("%d traces", count)
	}
}

// P22: the errors

func TestErrorsOfTraces(t *testing.T) {
	for errno, l := range cases.Invalid() {
		for x := range 8 {
			wantError(t, l, x, errno)
		}
	}
}

// An invalid event behind warnings is an error, and what was before it is no result.
func TestErrorBehindWarnings(t *testing.T) {
	l := cases.Events("t0 fork t1; t0 write x0; t1 write x0; t1 release m0")
	wantWarns(t, l[:3], []api.Flag{{At: 2}})
	wantError(t, l, 0, api.ErrFree)
	l[3] = api.Event{Kind: api.Write, Obj: 8}
	wantError(t, l, 0, api.ErrArg)
	l[3] = api.Event{Thread: 1}
	wantError(t, l, 0, api.ErrArg)
	wantError(t, slices.Repeat(l[:3], 30), 0, api.ErrLarge)
}

func TestCommonOfWhatIsNoVariable(t *testing.T) {
	for _, x := range badVars {
		wantCommon(t, nil, x, 0, api.ErrArg)
		wantCommon(t, cases.Events("t0 acquire m0; t0 write x0; t0 write x7"), x, 0, api.ErrArg)
		wantCommon(t, cases.Long(80, 1), x, 0, api.ErrArg)
	}
}

// The error of the trace is before that of the variable.
func TestErrorOfTheTraceIsFirst(t *testing.T) {
	for errno, l := range cases.Invalid() {
		for _, x := range badVars {
			wantError(t, l, x, errno)
		}
	}
}

// P1 and P2

// Whatever a list has, there is no panic, and the error is that of trace.Check.
func TestOddLists(t *testing.T) {
	for l := range cases.Odd() {
		if _, errno := trace.Check(l); errno != api.OK {
			wantError(t, l, 0, errno)
		} else {
			wantExpected(t, l)
		}
	}
}

func TestArgumentsAreNotModified(t *testing.T) {
	if cases.IsChanged(func(l []api.Event) {
		guard.Guards(l)
		guard.Warns(l)
		for x := range 9 {
			guard.Common(l, x)
		}
	}) {
		t.Error("modified")
	}
}

func TestWarnsAreNewlyAllocated(t *testing.T) {
	for _, s := range samples() {
		l := cases.Events(s.trace)
		if cases.SharesMemory(func() []api.Flag { warns, _ := guard.Warns(l); return warns }) {
			t.Errorf("%s: results share memory", s.trace)
		}
		wantSample(t, s)
	}
}

func TestResultsDependOnlyOnArguments(t *testing.T) {
	cases.Together(func() {
		for _, s := range samples() {
			wantSample(t, s)
		}
		for errno, l := range cases.Invalid() {
			wantError(t, l, 0, errno)
		}
	})
}
