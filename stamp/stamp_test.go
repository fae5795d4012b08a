package stamp_test

import (
	"math"
	"slices"
	"testing"

	"deadheat/api"
	"deadheat/cases"
	"deadheat/clock"
	"deadheat/order"
	"deadheat/stamp"
	"deadheat/trace"
)

var badThreads = []int{math.MinInt, -6, -1, 6, 7, 8, 80, 1 << 32, math.MaxInt}

func wantStamps(t *testing.T, l []api.Event, want []api.Clock, wantErrno api.Errno) {
	t.Helper()
	if got, errno := stamp.Stamps(l); !slices.Equal(got, want) || errno != wantErrno {
		t.Errorf("Stamps(%v) = %v, %d, want %v, %d", l, got, errno, want, wantErrno)
	}
}

func wantKnows(t *testing.T, l []api.Event, thread int, want api.Clock, wantErrno api.Errno) {
	t.Helper()
	if got, errno := stamp.Knows(l, thread); got != want || errno != wantErrno {
		t.Errorf("Knows(%v, %d) = %v, %d, want %v, %d", l, thread, got, errno, want, wantErrno)
	}
}

// sample is a trace with the clocks of its events.
type sample struct {
	trace  string
	stamps []api.Clock
}

// samples returns traces whose clocks were found by reading P11 and P13.
func samples() []sample {
	return []sample{
		{"t0 read x0", []api.Clock{{1}}},
		{"t0 write x1; t0 see v0; t0 acquire m0; t0 read x1", []api.Clock{{1}, {2}, {3}, {4}}},
		// The chapter's example.
		{"t0 fork t1; t1 read x0", []api.Clock{{1}, {1, 1}}},
		// Accesses order nothing.
		{"t0 fork t1; t0 write x0; t1 write x0; t0 read x0; t1 read x0", []api.Clock{{1}, {2}, {1, 1}, {3}, {1, 2}}},
		// A thread knows of its Fork, but not of what comes later.
		{"t0 read x0; t0 fork t5; t0 read x0; t5 read x0", []api.Clock{{1}, {2}, {3}, {2, 0, 0, 0, 0, 1}}},
		{"t0 fork t3; t3 fork t5; t0 read x0; t5 read x0; t3 read x0",
			[]api.Clock{{1}, {1, 0, 0, 1}, {2}, {1, 0, 0, 1, 0, 1}, {1, 0, 0, 2}}},
		// A Release and later Acquires of the same lock, whoever had it in between.
		{"t0 fork t1; t0 acquire m0; t0 write x0; t0 release m0; t1 acquire m0; t1 write x0; t1 release m0; t0 acquire m0",
			[]api.Clock{{1}, {2}, {3}, {4}, {4, 1}, {4, 2}, {4, 3}, {5, 3}}},
		{"t0 fork t1; t0 acquire m4; t0 release m4; t1 acquire m3; t1 acquire m4", []api.Clock{{1}, {2}, {3}, {1, 1}, {3, 2}}},
		{"t0 fork t1; t0 fork t2; t0 acquire m2; t0 release m2; t1 acquire m2; t1 release m2; t0 read x0; t2 acquire m2",
			[]api.Clock{{1}, {2}, {3}, {4}, {4, 1}, {4, 2}, {5}, {4, 2, 1}}},
		// A Join and the joined thread, which may have no event.
		{"t0 fork t1; t1 write x0; t1 write x1; t0 read x2; t0 join t1; t0 read x0",
			[]api.Clock{{1}, {1, 1}, {1, 2}, {2}, {3, 2}, {4, 2}}},
		{"t0 fork t1; t1 fork t2; t0 read x0; t0 join t2", []api.Clock{{1}, {1, 1}, {2}, {3, 1}}},
		{"t0 fork t1; t0 fork t2; t1 write x0; t0 join t1; t2 join t1; t2 join t1",
			[]api.Clock{{1}, {2}, {1, 1}, {3, 1}, {2, 1, 1}, {2, 1, 2}}},
		{"t0 fork t1; t0 write x0; t1 read x0; t1 join t0; t1 write x0", []api.Clock{{1}, {2}, {1, 1}, {2, 2}, {2, 3}}},
		// A Show and later Sees of the same signal, but not earlier ones.
		{"t0 fork t1; t1 see v3; t0 show v3; t1 see v2; t1 see v3", []api.Clock{{1}, {1, 1}, {2}, {1, 2}, {2, 3}}},
		{"t0 fork t1; t0 show v1; t1 show v1; t0 see v1; t1 see v1", []api.Clock{{1}, {2}, {1, 1}, {3, 1}, {2, 2}}},
		// All threads.
		{"t0 fork t1; t1 fork t2; t2 fork t3; t3 fork t4; t4 fork t5; t5 show v0; t4 read x0; t0 see v0",
			[]api.Clock{{1}, {1, 1}, {1, 1, 1}, {1, 1, 1, 1}, {1, 1, 1, 1, 1}, {1, 1, 1, 1, 1, 1}, {1, 1, 1, 1, 2}, {2, 1, 1, 1, 1, 1}}},
	}
}

// last returns the clock of the last event of a thread, or the zero clock if it has none.
func last(l []api.Event, stamps []api.Clock, thread int) api.Clock {
	var c api.Clock
	for i, e := range l {
		if e.Thread == thread {
			c = stamps[i]
		}
	}
	return c
}

// P13

func TestSamples(t *testing.T) {
	for _, s := range samples() {
		l := cases.Events(s.trace)
		wantStamps(t, l, s.stamps, api.OK)
		for thread := range 6 {
			wantKnows(t, l, thread, last(l, s.stamps, thread), api.OK)
		}
	}
}

func TestKnows(t *testing.T) {
	const s = "t0 fork t4; t0 fork t2; t4 write x0; t4 show v0; t0 read x0; t2 see v0; t0 join t4; t2 read x0"
	l := cases.Events(s)
	for thread, want := range []api.Clock{{4, 0, 0, 0, 2}, {}, {2, 0, 2, 0, 2}, {}, {1, 0, 0, 0, 2}, {}} {
		wantKnows(t, l, thread, want, api.OK)
	}
	for thread, want := range []api.Clock{{2}, {}, {}, {}, {1, 0, 0, 0, 1}, {}} {
		wantKnows(t, l[:3], thread, want, api.OK)
	}
	// Thread 2 has begun, the others but 0 have not, and none of them has an event.
	for thread, want := range []api.Clock{{2}, {}, {}, {}, {}, {}} {
		wantKnows(t, l[:2], thread, want, api.OK)
	}
}

func TestNoEvents(t *testing.T) {
	for _, l := range [][]api.Event{nil, {}} {
		wantStamps(t, l, nil, api.OK)
		for thread := range 6 {
			wantKnows(t, l, thread, api.Clock{}, api.OK)
		}
	}
}

func TestOneThread(t *testing.T) {
	var want []api.Clock
	for n := range 81 {
		l := slices.Repeat(cases.Events("t0 read x0"), n)
		wantStamps(t, l, want, api.OK)
		wantKnows(t, l, 0, api.Clock{n}, api.OK)
		want = append(want, api.Clock{n + 1})
	}
}

// carried gets the clocks in another way: it passes them on from event to event.
func carried(l []api.Event) []api.Clock {
	var threads [6]api.Clock
	var locks [5]api.Clock
	var signals [4]api.Clock
	var stamps []api.Clock
	for _, e := range l {
		now := threads[e.Thread]
		switch e.Kind {
		case api.Acquire:
			now = clock.Join(now, locks[e.Obj])
		case api.Join:
			now = clock.Join(now, threads[e.Obj])
		case api.See:
			now = clock.Join(now, signals[e.Obj])
		}
		now[e.Thread]++
		switch e.Kind {
		case api.Release:
			locks[e.Obj] = clock.Join(now, locks[e.Obj])
		case api.Fork:
			threads[e.Obj] = now
		case api.Show:
			signals[e.Obj] = clock.Join(now, signals[e.Obj])
		}
		threads[e.Thread] = now
		stamps = append(stamps, now)
	}
	return stamps
}

func TestAllShortTraces(t *testing.T) {
	for l := range cases.Short() {
		wantStamps(t, l, carried(l), api.OK)
	}
}

func TestLongTraces(t *testing.T) {
	for seed := range 60 {
		l := cases.Long(80-seed%3, seed)
		stamps := carried(l)
		wantStamps(t, l, stamps, api.OK)
		for n := range len(l) + 1 {
			for thread := range 6 {
				wantKnows(t, l[:n], thread, last(l[:n], stamps, thread), api.OK)
			}
		}
	}
}

// The clocks represent the order exactly: an event happens before another one
// if and only if its clock is before the other one's.
func TestClocksRepresentTheOrder(t *testing.T) {
	for seed := range 20 {
		l := cases.Long(70, seed)
		pairs, _ := order.Before(l)
		stamps, errno := stamp.Stamps(l)
		if len(stamps) != len(l) || errno != api.OK {
			t.Fatalf("Stamps(%v) = %v, %d", l, stamps, errno)
		}
		for a := range l {
			for b := a + 1; b < len(l); b++ {
				want := api.Beside
				if slices.Contains(pairs, api.Pair{A: a, B: b}) {
					want = api.Before
				}
				if got := clock.Compare(stamps[a], stamps[b]); got != want {
					t.Errorf("%v: the clocks of %d and %d compare as %d, want %d", l, a, b, got, want)
				}
			}
		}
	}
}

// wantError wants the same error from both functions, whatever thread is.
func wantError(t *testing.T, l []api.Event, thread int, want api.Errno) {
	t.Helper()
	wantStamps(t, l, nil, want)
	wantKnows(t, l, thread, api.Clock{}, want)
}

func TestErrorsOfTraces(t *testing.T) {
	for errno, l := range cases.Invalid() {
		for thread := range 6 {
			wantError(t, l, thread, errno)
		}
	}
}

func TestKnowsOfWhatIsNoThread(t *testing.T) {
	for _, thread := range badThreads {
		wantKnows(t, nil, thread, api.Clock{}, api.ErrArg)
		wantKnows(t, cases.Events("t0 read x0"), thread, api.Clock{}, api.ErrArg)
		wantKnows(t, cases.Long(80, 1), thread, api.Clock{}, api.ErrArg)
	}
}

// The error of the trace is before that of the thread.
func TestErrorOfTheTraceIsFirst(t *testing.T) {
	for errno, l := range cases.Invalid() {
		for _, thread := range badThreads {
			wantKnows(t, l, thread, api.Clock{}, errno)
		}
	}
}

// P1 and P2

// Whatever a list has, there is no panic, and the error is that of trace.Check.
func TestOddLists(t *testing.T) {
	for l := range cases.Odd() {
		if _, errno := trace.Check(l); errno != api.OK {
			wantError(t, l, 0, errno)
		} else {
			wantStamps(t, l, carried(l), api.OK)
			wantKnows(t, l, 1, last(l, carried(l), 1), api.OK)
		}
	}
}

func TestArgumentsAreNotModified(t *testing.T) {
	if cases.IsChanged(func(l []api.Event) {
		stamp.Stamps(l)
		for thread := range 7 {
			stamp.Knows(l, thread)
		}
	}) {
		t.Error("modified")
	}
}

func TestStampsAreNewlyAllocated(t *testing.T) {
	for _, s := range samples() {
		l := cases.Events(s.trace)
		if cases.SharesMemory(func() []api.Clock { stamps, _ := stamp.Stamps(l); return stamps }) {
			t.Errorf("%s: results share memory", s.trace)
		}
		wantStamps(t, l, s.stamps, api.OK)
	}
}

func TestResultsDependOnlyOnArguments(t *testing.T) {
	cases.Together(func() {
		for _, s := range samples() {
			l := cases.Events(s.trace)
			wantStamps(t, l, s.stamps, api.OK)
			wantKnows(t, l, 0, last(l, s.stamps, 0), api.OK)
		}
		for errno, l := range cases.Invalid() {
			wantError(t, l, 0, errno)
		}
	})
}
