package shrink_test

import (
	"math"
	"slices"
	"testing"

	"deadheat/api"
	"deadheat/cases"
	"deadheat/full"
	"deadheat/shrink"
	"deadheat/trace"
)

// badIndices returns numbers that are not an index of n events, 80 at most.
func badIndices(n int) []int {
	return []int{math.MinInt, -n - 1, -2, -1, n, n + 1, 80, 81, 1 << 32, math.MaxInt}
}

func wantMin(t *testing.T, l, want []api.Event, wantErrno api.Errno) {
	t.Helper()
	if got, errno := shrink.Min(l); !slices.Equal(got, want) || errno != wantErrno {
		t.Errorf("Min(%v) = %v, %d, want %v, %d", l, got, errno, want, wantErrno)
	}
}

func wantWithout(t *testing.T, l []api.Event, i int, want []api.Event, wantErrno api.Errno) {
	t.Helper()
	if got, errno := shrink.Without(l, i); !slices.Equal(got, want) || errno != wantErrno {
		t.Errorf("Without(%v, %d) = %v, %d, want %v, %d", l, i, got, errno, want, wantErrno)
	}
}

// wantError wants the same error from both functions, and no events beside it.
func wantError(t *testing.T, l []api.Event, i int, want api.Errno) {
	t.Helper()
	wantMin(t, l, nil, want)
	wantWithout(t, l, i, nil, want)
}

// removed returns the events but the one at i.
func removed(l []api.Event, i int) []api.Event {
	var rest []api.Event
	for j, e := range l {
		if j != i {
			rest = append(rest, e)
		}
	}
	return rest
}

// P26: Without

// Each event goes, whatever it is, if no other one needs it.
func TestWithoutOneEvent(t *testing.T) {
	const s = "t0 fork t1; t0 read x0; t1 write x0; t1 acquire m0; t1 release m0; t0 acquire m1; t0 see v0; t1 show v0; t0 fork t2; t2 read x3; t0 join t2; t0 join t1; t0 fork t3"
	l := cases.Events(s)
	for i, want := range map[int]string{
		1:  "t0 fork t1; t1 write x0; t1 acquire m0; t1 release m0; t0 acquire m1; t0 see v0; t1 show v0; t0 fork t2; t2 read x3; t0 join t2; t0 join t1; t0 fork t3",
		6:  "t0 fork t1; t0 read x0; t1 write x0; t1 acquire m0; t1 release m0; t0 acquire m1; t1 show v0; t0 fork t2; t2 read x3; t0 join t2; t0 join t1; t0 fork t3",
		12: "t0 fork t1; t0 read x0; t1 write x0; t1 acquire m0; t1 release m0; t0 acquire m1; t0 see v0; t1 show v0; t0 fork t2; t2 read x3; t0 join t2; t0 join t1",
	} {
		wantWithout(t, l, i, cases.Events(want), api.OK)
	}
	for i := range l {
		switch i {
		case 0, 3, 8: // The Forks of threads 1 and 2, and the Acquire of lock 0 that is released.
			wantWithout(t, l, i, nil, api.ErrForm)
		default:
			wantWithout(t, l, i, removed(l, i), api.OK)
		}
	}
}

func TestEventsThatOthersNeed(t *testing.T) {
	for s, i := range map[string]int{
		// A thread that would not have begun.
		"t0 fork t1; t1 read x0":                0,
		"t0 read x0; t0 fork t1; t1 join t0":    1,
		"t0 fork t1; t1 fork t2; t2 see v0":     1,
		"t0 fork t1; t0 join t1":                0,
		"t0 fork t3; t0 fork t1; t1 join t3":    0,
		"t0 fork t1; t1 fork t2; t0 show v2":    0,
		"t0 fork t1; t0 read x0; t1 show v3":    0,
		"t0 fork t1; t0 acquire m0; t0 join t1": 0,
		// A lock that the thread would not have.
		"t0 acquire m0; t0 release m0":                                        0,
		"t0 acquire m0; t0 release m0; t0 acquire m0; t0 release m0":          2,
		"t0 fork t1; t1 acquire m4; t0 acquire m3; t0 read x0; t1 release m4": 1,
		// A lock that a thread would still have.
		"t0 acquire m0; t0 release m0; t0 acquire m0":                            1,
		"t0 fork t1; t0 acquire m2; t0 release m2; t1 acquire m2; t1 release m2": 2,
		"t0 fork t1; t1 acquire m2; t1 release m2; t0 join t1; t0 acquire m2":    2,
	} {
		wantWithout(t, cases.Events(s), i, nil, api.ErrForm)
	}
}

// The same events can go as soon as those that need them are not there.
func TestEventsThatNoOtherNeeds(t *testing.T) {
	for s, i := range map[string]int{
		"t0 fork t1; t0 read x0":                                                 0,
		"t0 fork t1; t1 fork t2; t1 see v0":                                      1,
		"t0 fork t1; t0 fork t3; t0 join t1":                                     1,
		"t0 acquire m0; t0 release m0":                                           1,
		"t0 acquire m0; t0 acquire m1; t0 release m0":                            1,
		"t0 acquire m0; t0 release m0; t0 acquire m1":                            1,
		"t0 fork t1; t0 acquire m2; t0 release m2; t1 acquire m2; t1 release m2": 4,
		// After a Join there may be another one, and without it the thread is not over.
		"t0 fork t1; t0 join t1":                          1,
		"t0 fork t1; t0 fork t2; t0 join t1; t2 join t1":  2,
		"t0 fork t1; t1 read x0; t0 join t1; t0 write x0": 2,
		"t0 show v0; t0 see v0":                           0,
	} {
		l := cases.Events(s)
		wantWithout(t, l, i, removed(l, i), api.OK)
	}
}

// Without does not ask for a race.
func TestWithoutTheRace(t *testing.T) {
	l := cases.Events("t0 fork t1; t0 write x0; t1 write x0")
	wantWithout(t, l, 1, cases.Events("t0 fork t1; t1 write x0"), api.OK)
	wantWithout(t, l, 2, cases.Events("t0 fork t1; t0 write x0"), api.OK)
	wantWithout(t, cases.Events("t0 read x0"), 0, nil, api.OK)
}

// wantAllWithout wants what P26 says of all indices of a trace.
func wantAllWithout(t *testing.T, l []api.Event) {
	t.Helper()
	for i := range l {
		rest := removed(l, i)
		if _, errno := trace.Check(rest); errno == api.OK {
			wantWithout(t, l, i, rest, api.OK)
		} else {
			wantWithout(t, l, i, nil, api.ErrForm)
		}
	}
	for _, i := range badIndices(len(l)) {
		wantWithout(t, l, i, nil, api.ErrArg)
	}
}

func TestWithoutInAllTraces(t *testing.T) {
	for l := range cases.Short() {
		wantAllWithout(t, l)
	}
	for l := range cases.Locks() {
		wantAllWithout(t, l)
	}
	for seed := range 100 {
		wantAllWithout(t, cases.Long(80-seed%3, seed))
	}
}

// P26: Min

// sample is a trace with what Min leaves of it.
type sample struct{ trace, least string }

// samples returns traces that were reduced by reading P26.
func samples() []sample {
	const begin = "t0 fork t1; t0 fork t2; "
	return []sample{
		// Nothing can go, and the chapter's example: the Fork between the Writes is needed.
		{"t0 fork t1; t0 write x0; t1 write x0", "t0 fork t1; t0 write x0; t1 write x0"},
		{"t0 fork t1; t1 write x0; t0 fork t2; t2 write x0", "t0 fork t1; t1 write x0; t0 fork t2; t2 write x0"},
		// The kinds of races.
		{"t0 fork t1; t0 write x0; t1 read x0", "t0 fork t1; t0 write x0; t1 read x0"},
		{"t0 fork t1; t1 read x7; t0 write x7", "t0 fork t1; t1 read x7; t0 write x7"},
		// Whatever has nothing to do with the race, at any place.
		{"t0 read x0; t0 fork t1; t0 write x0; t1 see v0; t1 write x0; t1 show v0", "t0 fork t1; t0 write x0; t1 write x0"},
		{begin + "t1 write x0; t0 read x1; t0 write x0; t0 join t2; t0 join t1", "t0 fork t1; t1 write x0; t0 write x0"},
		// Forks of threads that fork the thread of an access, but not of other ones.
		{"t0 fork t1; t1 fork t2; t2 fork t3; t3 write x0; t0 write x0", "t0 fork t1; t1 fork t2; t2 fork t3; t3 write x0; t0 write x0"},
		{"t0 fork t5; t5 fork t4; t5 fork t3; t4 write x0; t5 write x0; t0 fork t1", "t0 fork t5; t5 fork t4; t4 write x0; t5 write x0"},
		// What is needed when it is examined can go later, when what needs it has gone.
		{"t0 fork t1; t0 acquire m0; t0 write x0; t0 release m0; t1 write x0", "t0 fork t1; t0 write x0; t1 write x0"},
		{"t0 acquire m0; t0 release m0; t0 acquire m0; t0 release m0; t0 fork t1; t0 write x0; t1 write x0", "t0 fork t1; t0 write x0; t1 write x0"},
		{"t0 fork t2; t2 fork t3; t3 fork t1; t3 read x0; t0 fork t4; t0 join t2; t4 write x0; t0 write x0", "t0 fork t4; t4 write x0; t0 write x0"},
		// Of several races, the one that is examined last remains: the first index comes first.
		{"t0 fork t1; t0 write x0; t1 write x0; t0 write x1; t1 write x1", "t0 fork t1; t0 write x1; t1 write x1"},
		{"t0 fork t1; t0 write x1; t0 write x0; t1 write x0; t1 write x1", "t0 fork t1; t0 write x0; t1 write x0"},
		{"t0 fork t1; t0 write x0; t0 read x0; t1 read x0; t1 write x0", "t0 fork t1; t0 read x0; t1 write x0"},
		// The same index is examined again, before the next one: the first Write goes ahead of the second one.
		{begin + "t0 read x5; t0 write x0; t1 write x0; t2 write x0", begin + "t1 write x0; t2 write x0"},
		// Races of variables that also have accesses without one.
		{"t0 fork t1; t0 write x0; t0 show v0; t0 read x0; t1 see v0; t1 write x0; t0 show v1", "t0 fork t1; t0 read x0; t1 write x0"},
		{"t0 fork t1; t0 write x1; t0 write x0; t0 show v0; t1 write x1; t1 see v0; t1 read x0", "t0 fork t1; t0 write x1; t1 write x1"},
		// A removal can bring about the race that remains, here that of the Show.
		{begin + "t0 write x0; t0 show v0; t2 read x0; t1 see v0; t1 read x0", "t0 fork t1; t0 write x0; t1 read x0"},
		{begin + "t0 write x0; t0 show v0; t1 see v0; t1 read x0; t2 read x0", "t0 fork t2; t0 write x0; t2 read x0"},
		// The next index comes before the first one: thread 0 reads x0 while its Acquire still
		// comes after the Release of thread 1, so that it is the Read of thread 2 that remains.
		{begin + "t1 acquire m0; t1 write x0; t1 release m0; t0 acquire m0; t0 release m0; t2 read x0; t0 read x0",
			begin + "t1 write x0; t2 read x0"},
	}
}

func TestSamples(t *testing.T) {
	for _, s := range samples() {
		l, least := cases.Events(s.trace), cases.Events(s.least)
		wantMin(t, l, least, api.OK)
		wantMin(t, least, least, api.OK)
	}
}

// hasRace tells races by the flags of chapter 8.
func hasRace(l []api.Event) bool {
	flags, errno := full.Run(l)
	return errno == api.OK && len(flags) > 0
}

// reduced goes through all indices of a trace with a race, again and again, as P26 says.
func reduced(l []api.Event) []api.Event {
	for {
		n := len(l)
		for i := 0; i < len(l); {
			if rest := removed(l, i); hasRace(rest) {
				l = rest
			} else {
				i++
			}
		}
		if len(l) == n {
			return l
		}
	}
}

// wantReduced wants what P26 says of Min for a trace, and reports whether it has a race.
func wantReduced(t *testing.T, l []api.Event) bool {
	t.Helper()
	if !hasRace(l) {
		wantMin(t, l, nil, api.ErrNone)
		return false
	}
	least := reduced(l)
	wantMin(t, l, least, api.OK)
	wantMin(t, least, least, api.OK)
	return true
}

func TestMinOfAllShortTraces(t *testing.T) {
	counts := map[bool]int{}
	for l := range cases.Accesses() {
		counts[wantReduced(t, l)]++
	}
	for l := range cases.Short() {
		counts[wantReduced(t, l)]++
	}
	if counts[true] < 1000 || counts[false] < 1000 {
		t.Errorf("too few traces: %v", counts)
	}
}

func TestMinOfLongTraces(t *testing.T) {
	count := 0
	for seed := range 200 {
		if wantReduced(t, cases.Long(80-seed%3, seed)) {
			count++
		}
	}
	if count < 100 {
		t.Errorf("only %d traces with a race", count)
	}
}

// In the beginning of a trace there are fewer races, until there is none.
func TestMinOfPrefixes(t *testing.T) {
	for seed := range 10 {
		l := cases.Long(80, seed)
		for n := range len(l) + 1 {
			wantReduced(t, l[:n])
		}
	}
}

// forked returns the Forks without which some threads would not begin, in a trace.
func forked(l []api.Event, threads ...int) []api.Event {
	var forks []api.Event
	for _, e := range slices.Backward(l) {
		if e.Kind == api.Fork && slices.Contains(threads, e.Obj) {
			forks = append(forks, e)
			threads = append(threads, e.Thread)
		}
	}
	slices.Reverse(forks)
	return forks
}

// Nothing remains but two accesses that race and the Forks without which their threads
// would not begin: everything else can go in some order.
func TestWhatRemains(t *testing.T) {
	for seed := range 200 {
		l := cases.Long(80-seed%3, seed)
		if !hasRace(l) {
			continue
		}
		least, errno := shrink.Min(l)
		isFork := func(e api.Event) bool { return e.Kind == api.Fork }
		accesses := slices.DeleteFunc(slices.Clone(least), isFork)
		forks := slices.DeleteFunc(slices.Clone(least), func(e api.Event) bool { return !isFork(e) })
		if errno != api.OK || len(accesses) != 2 || !hasRace(least) || !slices.Equal(forks, forked(l, accesses[0].Thread, accesses[1].Thread)) {
			t.Errorf("Min(%v) = %v, %d", l, least, errno)
		}
	}
}

// In the longest traces, much can go only after what comes behind it.
func TestMinOfManyLocks(t *testing.T) {
	l := cases.Events("t0 fork t1; t0 write x0; t1 write x0")
	locks := slices.Repeat(cases.Events("t0 acquire m0; t0 release m0"), 38)
	wantMin(t, slices.Concat(l, locks), l, api.OK)
	wantMin(t, slices.Concat(locks, l), l, api.OK)
	wantMin(t, slices.Concat(l[:2], locks, l[2:]), l, api.OK)
	wantMin(t, slices.Concat(l[:1], locks[:1], l[1:], locks[1:]), l, api.OK)
}

// Each thread forks the next one. With Reads behind the Writes, the first Write can go, and
// with it the Forks that it alone needs.
func TestMinOfManyForks(t *testing.T) {
	l := cases.Events("t0 fork t5; t5 fork t4; t4 fork t3; t3 fork t2; t2 fork t1; t1 write x0; t0 write x0")
	wantMin(t, l, l, api.OK)
	wantMin(t, slices.Concat(l, slices.Repeat(cases.Events("t3 read x0"), 73)), cases.Events(
		"t0 fork t5; t5 fork t4; t4 fork t3; t0 write x0; t3 read x0"), api.OK)
}

// All accesses of thread 0 race with all of thread 1. The last ones remain.
func TestMinOfManyRaces(t *testing.T) {
	l := append(cases.Events("t0 fork t1"), slices.Repeat(cases.Events("t0 write x6"), 39)...)
	l = append(l, slices.Repeat(cases.Events("t1 write x6"), 39)...)
	wantMin(t, l, cases.Events("t0 fork t1; t0 write x6; t1 write x6"), api.OK)
	l = append(l, cases.Events("t1 read x6")...)
	wantMin(t, l, cases.Events("t0 fork t1; t0 write x6; t1 read x6"), api.OK)
}

// Where events have a race only when others are removed, the trace has none.
func TestMinOfTracesWithoutRaces(t *testing.T) {
	for _, s := range []string{
		"t0 read x0",
		"t0 write x0; t0 fork t1; t1 write x0; t0 join t1; t0 write x0",
		"t0 fork t1; t0 read x0; t1 read x0; t0 write x1; t1 write x2",
		"t0 fork t1; t0 acquire m0; t0 write x0; t0 release m0; t1 acquire m0; t1 write x0; t1 release m0",
		"t0 fork t1; t0 write x0; t0 show v0; t1 see v0; t1 read x0",
		"t0 fork t1; t1 write x0; t0 join t1; t0 read x0",
	} {
		wantMin(t, cases.Events(s), nil, api.ErrNone)
	}
	wantMin(t, slices.Repeat(cases.Events("t0 write x0"), 80), nil, api.ErrNone)
}

func TestNoEvents(t *testing.T) {
	for _, l := range [][]api.Event{nil, {}} {
		wantMin(t, l, nil, api.ErrNone)
		for _, i := range append(badIndices(0), 0) {
			wantWithout(t, l, i, nil, api.ErrArg)
		}
	}
}

// P26: the errors

func TestErrorsOfTraces(t *testing.T) {
	for errno, l := range cases.Invalid() {
		for i := range l {
			wantError(t, l, i, errno)
		}
		for _, i := range badIndices(len(l)) {
			wantError(t, l, i, errno)
		}
	}
}

// Both ends of a trace, and the places behind them.
func TestWhatIsNoIndex(t *testing.T) {
	l := cases.Events("t0 fork t1; t0 acquire m0; t1 write x0; t0 release m0")
	for n := range len(l) + 1 {
		for _, i := range badIndices(n) {
			wantWithout(t, l[:n], i, nil, api.ErrArg)
		}
	}
	l = slices.Repeat(l[2:3], 80)
	l[0] = api.Event{Kind: api.Fork, Obj: 1}
	wantWithout(t, l, 79, l[:79], api.OK)
	for _, i := range badIndices(80) {
		wantWithout(t, l, i, nil, api.ErrArg)
	}
}

// An invalid event is an error although a race is before it, and although it is the one
// that is to go.
func TestErrorsOfTracesThatCouldBeShortened(t *testing.T) {
	l := cases.Events("t0 fork t1; t0 write x0; t1 write x0; t1 release m0")
	wantError(t, l, 3, api.ErrFree)
	wantError(t, cases.Events("t0 acquire m0; t0 acquire m0; t0 release m0"), 1, api.ErrHeld)
	wantError(t, cases.Events("t0 fork t1; t0 fork t1; t1 write x0; t0 write x0"), 1, api.ErrTwice)
	long := append(l[:3], slices.Repeat(l[1:2], 78)...)
	wantError(t, long, 80, api.ErrLarge)
	wantWithout(t, long[:80], 79, long[:79], api.OK)
}

// P1 and P2

// Whatever a list has, there is no panic, and the error is that of trace.Check.
func TestOddLists(t *testing.T) {
	for l := range cases.Odd() {
		if _, errno := trace.Check(l); errno != api.OK {
			wantError(t, l, len(l)-1, errno)
		} else {
			wantAllWithout(t, l)
			wantReduced(t, l)
		}
	}
}

func TestArgumentsAreNotModified(t *testing.T) {
	if cases.IsChanged(func(l []api.Event) {
		shrink.Min(l)
		for i := range 81 {
			shrink.Without(l, i)
		}
	}) {
		t.Error("modified")
	}
}

func TestResultsAreNewlyAllocated(t *testing.T) {
	for _, s := range samples() {
		for _, l := range [][]api.Event{cases.Events(s.trace), cases.Events(s.least)} {
			want := slices.Clone(l)
			if cases.SharesMemory(func() []api.Event { least, _ := shrink.Min(l); return least }) {
				t.Errorf("%v: results of Min share memory", l)
			}
			for i := range l {
				if cases.SharesMemory(func() []api.Event { shorter, _ := shrink.Without(l, i); return shorter }) {
					t.Errorf("%v: results of Without at %d share memory", l, i)
				}
			}
			if !slices.Equal(l, want) {
				t.Errorf("%v: changed with a result, to %v", want, l)
			}
		}
	}
}

func TestResultsDependOnlyOnArguments(t *testing.T) {
	cases.Together(func() {
		for _, s := range samples() {
			l := cases.Events(s.trace)
			wantMin(t, l, cases.Events(s.least), api.OK)
			wantAllWithout(t, l)
		}
		for errno, l := range cases.Invalid() {
			wantError(t, l, 0, errno)
		}
	})
}
