package full_test

import (
	"math"
	"slices"
	"testing"

	"deadheat/api"
	"deadheat/cases"
	"deadheat/full"
	"deadheat/race"
	"deadheat/trace"
)

var badVars = []int{math.MinInt, -8, -1, 8, 9, 16, 80, 1 << 32, math.MaxInt}

func wantRun(t *testing.T, l []api.Event, want []api.Flag, wantErrno api.Errno) {
	t.Helper()
	if got, errno := full.Run(l); !slices.Equal(got, want) || errno != wantErrno {
		t.Errorf("Run(%v) = %v, %d, want %v, %d", l, got, errno, want, wantErrno)
	}
}

func wantLast(t *testing.T, l []api.Event, x int, wantR, wantW api.Clock, wantErrno api.Errno) {
	t.Helper()
	if r, w, errno := full.Last(l, x); r != wantR || w != wantW || errno != wantErrno {
		t.Errorf("Last(%v, %d) = %v, %v, %d, want %v, %v, %d", l, x, r, w, errno, wantR, wantW, wantErrno)
	}
}

func wantAccesses(t *testing.T, l []api.Event, want []full.Access, wantErrno api.Errno) {
	t.Helper()
	if got, errno := full.Accesses(l); !slices.Equal(got, want) || errno != wantErrno {
		t.Errorf("Accesses(%v) = %v, %d, want %v, %d", l, got, errno, want, wantErrno)
	}
}

// wantError wants the same error from all functions, whatever x is.
func wantError(t *testing.T, l []api.Event, x int, want api.Errno) {
	t.Helper()
	wantAccesses(t, l, nil, want)
	wantRun(t, l, nil, want)
	wantLast(t, l, x, api.Clock{}, api.Clock{}, want)
}

// flagged returns the flags that follow from the races of a trace: each event that
// races with an earlier one is flagged, a Write as WriteWrite if it races with a Write.
func flagged(t *testing.T, l []api.Event) []api.Flag {
	t.Helper()
	races, errno := race.All(l)
	if errno != api.OK {
		t.Fatalf("All(%v): %d", l, errno)
	}
	kinds := map[int]int{}
	for _, r := range races {
		if kinds[r.B] != api.WriteWrite {
			kinds[r.B] = r.Kind
		}
	}
	var flags []api.Flag
	for i, e := range l {
		if kind := kinds[i]; kind != 0 {
			flags = append(flags, api.Flag{At: i, Var: e.Obj, Kind: kind})
		}
	}
	return flags
}

// numbers returns the own number of each thread at its last event of a kind and
// object: how often it passed its clock on before, and 1 more.
func numbers(l []api.Event, kind, obj int) api.Clock {
	var own, last api.Clock
	for _, e := range l {
		if e.Kind == kind && e.Obj == obj {
			last[e.Thread] = own[e.Thread] + 1
		}
		if e.Kind == api.Release || e.Kind == api.Fork || e.Kind == api.Show {
			own[e.Thread]++
		}
	}
	return last
}

// wantResults wants these flags, and the clocks of all variables that follow from
// the trace itself.
func wantResults(t *testing.T, l []api.Event, flags []api.Flag) {
	t.Helper()
	wantRun(t, l, flags, api.OK)
	for x := range 8 {
		wantLast(t, l, x, numbers(l, api.Read, x), numbers(l, api.Write, x), api.OK)
	}
}

// sample is a trace with its flags.
type sample struct{ trace, flags string }

// samples returns traces whose flags were found by following P16 and P17.
func samples() []sample {
	const begin = "t0 fork t1; t0 fork t2; "
	return []sample{
		// The kinds.
		{"t0 fork t1; t0 write x0; t1 write x0", "2 x0 ww"},
		{"t0 fork t1; t0 write x0; t1 read x0", "2 x0 wr"},
		{"t0 fork t1; t0 read x0; t1 write x0", "2 x0 rw"},
		{"t0 fork t1; t0 read x0; t1 read x0", ""},
		{"t0 fork t1; t1 write x7; t0 write x7", "2 x7 ww"},
		// A Write looks at W before it looks at R.
		{"t0 fork t1; t0 read x0; t0 write x0; t1 write x0", "3 x0 ww"},
		{"t0 fork t1; t0 read x0; t0 show v0; t0 write x0; t1 see v0; t1 write x0", "5 x0 ww"},
		{"t0 fork t1; t0 read x0; t0 show v0; t0 write x0; t1 see v0; t1 read x0", "5 x0 wr"},
		{"t0 fork t1; t0 write x0; t0 show v0; t0 read x0; t1 see v0; t1 write x0", "5 x0 rw"},
		{"t0 fork t1; t0 write x0; t0 show v0; t0 read x0; t1 see v0; t1 read x0", ""},
		// A thread's own accesses are within its clock.
		{"t0 write x0; t0 read x0; t0 write x0; t0 write x0", ""},
		{"t0 write x0; t0 show v0; t0 read x0; t0 show v0; t0 write x0", ""},
		// Every second access is flagged, once.
		{"t0 fork t1; t0 write x5; t1 read x5; t1 write x5; t0 read x5; t0 write x5",
			"2 x5 wr; 3 x5 ww; 4 x5 wr; 5 x5 ww"},
		{begin + "t1 read x4; t2 write x4; t0 write x4; t0 write x4", "3 x4 rw; 4 x4 ww; 5 x4 ww"},
		{begin + "t1 write x4; t2 write x4; t0 read x4", "3 x4 ww; 4 x4 wr"},
		// Several variables, in the order of the accesses.
		{"t0 fork t1; t1 read x7; t0 write x0; t1 write x0; t0 write x7; t1 read x3", "3 x0 ww; 4 x7 rw"},
		{"t0 fork t1; t0 write x0; t1 write x1; t0 read x2; t1 write x3", ""},
		// A Write forgets no other thread's accesses.
		{begin + "t1 read x0; t2 read x0; t2 write x0; t0 join t2; t0 write x0", "4 x0 rw; 6 x0 rw"},
		{begin + "t1 write x0; t2 write x0; t0 join t2; t0 write x0", "3 x0 ww; 5 x0 ww"},
		{begin + "t1 write x0; t2 write x0; t0 join t1; t0 join t2; t0 write x0", "3 x0 ww"},
		// Acquire and Release: an access behind the Release is not known, nor is a
		// lock that was not released by then.
		{"t0 fork t1; t0 acquire m0; t0 write x0; t0 release m0; t1 acquire m0; t1 write x0; t1 release m0; t0 acquire m0; t0 read x0", ""},
		{"t0 fork t1; t0 acquire m0; t0 release m0; t0 write x0; t1 acquire m0; t1 write x0", "5 x0 ww"},
		{"t0 fork t1; t0 acquire m0; t0 write x0; t0 release m0; t1 write x0", "4 x0 ww"},
		{"t0 fork t1; t0 acquire m0; t0 write x0; t0 release m0; t1 acquire m4; t1 read x0", "5 x0 wr"},
		{"t0 fork t1; t1 acquire m4; t0 acquire m0; t0 write x0; t0 release m0; t1 read x0", "5 x0 wr"},
		{begin + "t1 acquire m4; t1 write x0; t1 release m4; t0 acquire m4; t0 release m4; t2 acquire m4; t2 write x0", ""},
		// Fork: the forked thread knows what was before, and only that.
		{"t0 write x0; t0 fork t1; t1 write x0; t0 write x0", "3 x0 ww"},
		{"t0 write x0; t0 fork t1; t1 fork t2; t2 write x0", ""},
		{"t0 fork t5; t5 write x0; t5 fork t1; t1 read x0; t5 read x0; t5 write x0", "5 x0 rw"},
		// Join, of a thread that has joined others, too, and by several threads.
		{"t0 fork t1; t1 write x0; t0 join t1; t0 write x0", ""},
		{"t0 fork t1; t1 fork t2; t2 write x0; t1 join t2; t0 join t1; t0 write x0", ""},
		{begin + "t1 write x0; t0 join t1; t2 read x0; t2 join t1; t2 read x0", "4 x0 wr"},
		{"t0 fork t1; t0 write x0; t1 join t0; t1 write x0", ""},
		// See and Show: a signal keeps what all Shows before told it.
		{"t0 fork t1; t0 write x0; t0 show v0; t1 see v0; t1 write x0", ""},
		{"t0 fork t1; t0 write x0; t1 see v0; t0 show v0; t1 write x0", "4 x0 ww"},
		{"t0 fork t1; t0 write x0; t0 show v0; t1 see v3; t1 write x0", "4 x0 ww"},
		{"t0 fork t1; t0 show v0; t0 write x0; t1 see v0; t1 write x0", "4 x0 ww"},
		{"t0 fork t1; t0 write x0; t0 show v0; t1 show v0; t1 read x0", "4 x0 wr"},
		{begin + "t1 write x1; t1 show v3; t2 show v3; t0 see v3; t0 write x1", ""},
		// The same numbers of locks, signals and threads are something else.
		{"t0 fork t1; t0 write x0; t0 show v0; t1 acquire m0; t1 write x0", "4 x0 ww"},
		{"t0 fork t1; t0 acquire m0; t0 write x0; t0 release m0; t1 see v0; t1 write x0", "5 x0 ww"},
		{begin + "t1 write x0; t1 show v1; t2 acquire m1; t2 release m1; t2 see v2; t2 write x0", "7 x0 ww"},
	}
}

// P16 and P17

func TestSamples(t *testing.T) {
	for _, s := range samples() {
		wantResults(t, cases.Events(s.trace), cases.Flags(s.flags))
	}
}

// A thread's own number is 1 at first, and greater by one after a Release (the
// chapter's example), Fork or Show, but not after anything else.
func TestOwnNumbers(t *testing.T) {
	for s, want := range map[string]api.Clock{
		"t0 write x3": {1},
		"t0 fork t1; t0 fork t2; t0 fork t3; t0 fork t4; t0 fork t5; t1 write x3; t2 write x3; t3 write x3; t4 write x3; t5 write x3": {0, 1, 1, 1, 1, 1},
		"t0 read x3; t0 write x3":                                               {1},
		"t0 write x3; t0 write x3":                                              {1},
		"t0 acquire m0; t0 write x3":                                            {1},
		"t0 acquire m0; t0 release m0; t0 write x3":                             {2},
		"t0 acquire m0; t0 release m0; t0 acquire m0; t0 write x3":              {2},
		"t0 fork t1; t0 write x3":                                               {2},
		"t0 fork t1; t0 join t1; t0 write x3":                                   {2},
		"t0 fork t1; t1 join t0; t1 write x3":                                   {0, 1},
		"t0 see v0; t0 write x3":                                                {1},
		"t0 show v0; t0 write x3":                                               {2},
		"t0 show v0; t0 see v0; t0 write x3":                                    {2},
		"t0 show v0; t0 fork t1; t0 acquire m0; t0 release m0; t0 write x3":     {4},
		"t0 fork t1; t1 show v0; t1 show v0; t0 see v0; t0 write x3":            {2},
		"t0 fork t1; t1 show v0; t0 join t1; t0 write x3; t0 show v0":           {2},
		"t0 fork t1; t0 show v0; t1 see v0; t1 write x3; t1 show v0; t0 see v0": {0, 1},
	} {
		l := cases.Events(s)
		wantLast(t, l, 3, numbers(l, api.Read, 3), want, api.OK)
	}
}

// The accesses have the clock C of their thread at that time.
func TestAccesses(t *testing.T) {
	l := cases.Events("t0 write x1; t0 fork t1; t1 read x7; t0 show v0; t1 see v0; t1 write x1; t0 join t1; t0 read x0")
	want := []full.Access{
		{Event: l[0], At: 0, Own: api.Clock{1}},
		{Event: l[2], At: 2, Own: api.Clock{1, 1}},
		{Event: l[5], At: 5, Own: api.Clock{2, 1}},
		{Event: l[7], At: 7, Own: api.Clock{3, 1}},
	}
	wantAccesses(t, l, want, api.OK)
	wantAccesses(t, l[:7], want[:3], api.OK)
	wantAccesses(t, l[1:2], nil, api.OK)
	wantAccesses(t, nil, nil, api.OK)
}

// The detector flags exactly the events that race with an earlier one.
func TestAllShortTraces(t *testing.T) {
	for l := range cases.Accesses() {
		wantResults(t, l, flagged(t, l))
	}
	for l := range cases.Short() {
		wantResults(t, l, flagged(t, l))
	}
}

func TestLongTraces(t *testing.T) {
	for seed := range 200 {
		l := cases.Long(80-seed%3, seed)
		wantResults(t, l, flagged(t, l))
	}
}

// An event changes neither the flags of those before it nor the clocks so far.
func TestPrefixes(t *testing.T) {
	for seed := range 20 {
		l := cases.Long(80, seed)
		flags := flagged(t, l)
		for n := range len(l) + 1 {
			wantResults(t, l[:n], slices.DeleteFunc(slices.Clone(flags), func(f api.Flag) bool { return f.At >= n }))
		}
	}
}

func TestNoEvents(t *testing.T) {
	for _, l := range [][]api.Event{nil, {}} {
		wantResults(t, l, nil)
	}
}

func TestOneThread(t *testing.T) {
	for n := range 41 {
		wantResults(t, slices.Repeat(cases.Events("t0 write x0; t0 read x0"), n), nil)
	}
}

// In the longest traces, all accesses of the second thread can be flagged, and a
// number can be 80.
func TestLongestTraces(t *testing.T) {
	l := append(cases.Events("t0 fork t1; t0 write x6"), slices.Repeat(cases.Events("t1 read x6"), 78)...)
	var want []api.Flag
	for at := 2; at < 80; at++ {
		want = append(want, api.Flag{At: at, Var: 6, Kind: api.WriteRead})
	}
	wantResults(t, l, want)
	l = append(slices.Repeat(cases.Events("t0 show v0"), 79), cases.Events("t0 read x0")...)
	wantResults(t, l, nil)
	wantLast(t, l, 0, api.Clock{80}, api.Clock{}, api.OK)
}

// R comes before W, and each thread has its last number there, flagged or not.
func TestLast(t *testing.T) {
	const s = "t0 read x1; t0 fork t1; t0 write x1; t1 read x1; t1 show v0; t1 write x1; t0 see v0; t0 read x1; t0 show v0; t0 read x2; t0 write x1"
	l := cases.Events(s)
	for x, want := range map[int]struct{ r, w api.Clock }{
		0: {},
		1: {r: api.Clock{2, 1}, w: api.Clock{3, 2}},
		2: {r: api.Clock{3}},
		3: {},
		7: {},
	} {
		wantLast(t, l, x, want.r, want.w, api.OK)
	}
	wantLast(t, l[:1], 1, api.Clock{1}, api.Clock{}, api.OK)
	wantLast(t, l[:3], 1, api.Clock{1}, api.Clock{2}, api.OK)
	wantLast(t, l[:6], 1, api.Clock{1, 1}, api.Clock{2, 2}, api.OK)
	wantLast(t, l[:8], 1, api.Clock{2, 1}, api.Clock{2, 2}, api.OK)
	wantRun(t, l, cases.Flags("3 x1 wr; 5 x1 ww; 7 x1 wr; 10 x1 ww"), api.OK)
}

func TestErrorsOfTraces(t *testing.T) {
	for errno, l := range cases.Invalid() {
		for x := range 8 {
			wantError(t, l, x, errno)
		}
	}
}

// An invalid event behind flags is an error, and the flags before it are no result.
func TestErrorBehindFlags(t *testing.T) {
	l := cases.Events("t0 fork t1; t0 write x0; t1 write x0; t1 release m0")
	wantError(t, l, 0, api.ErrFree)
	l[3] = api.Event{Kind: api.Write, Obj: 8}
	wantError(t, l, 0, api.ErrArg)
	l[3] = api.Event{Thread: 1}
	wantError(t, l, 0, api.ErrArg)
	wantError(t, slices.Repeat(l[:3], 30), 0, api.ErrLarge)
}

func TestLastOfWhatIsNoVariable(t *testing.T) {
	for _, x := range badVars {
		wantLast(t, nil, x, api.Clock{}, api.Clock{}, api.ErrArg)
		wantLast(t, cases.Events("t0 fork t1; t0 write x0; t1 write x7"), x, api.Clock{}, api.Clock{}, api.ErrArg)
		wantLast(t, cases.Long(80, 1), x, api.Clock{}, api.Clock{}, api.ErrArg)
	}
}

// The error of the trace is before that of the variable.
func TestErrorOfTheTraceIsFirst(t *testing.T) {
	for errno, l := range cases.Invalid() {
		for _, x := range badVars {
			wantError(t, l, x, errno)
		}
	}
}

// P1 and P2

// Whatever a list has, there is no panic, and the error is that of trace.Check.
func TestOddLists(t *testing.T) {
	for l := range cases.Odd() {
		if _, errno := trace.Check(l); errno != api.OK {
			wantError(t, l, 0, errno)
		} else {
			wantResults(t, l, flagged(t, l))
		}
	}
}

func TestArgumentsAreNotModified(t *testing.T) {
	if cases.IsChanged(func(l []api.Event) {
		full.Run(l)
		full.Accesses(l)
		for x := range 9 {
			full.Last(l, x)
		}
	}) {
		t.Error("modified")
	}
}

func TestResultsAreNewlyAllocated(t *testing.T) {
	for _, s := range samples() {
		l := cases.Events(s.trace)
		run := func() []api.Flag { flags, _ := full.Run(l); return flags }
		accesses := func() []full.Access { accesses, _ := full.Accesses(l); return accesses }
		if cases.SharesMemory(run) || cases.SharesMemory(accesses) {
			t.Errorf("%s: results share memory", s.trace)
		}
		wantResults(t, l, cases.Flags(s.flags))
	}
}

func TestResultsDependOnlyOnArguments(t *testing.T) {
	cases.Together(func() {
		for _, s := range samples() {
			wantResults(t, cases.Events(s.trace), cases.Flags(s.flags))
		}
		for errno, l := range cases.Invalid() {
			wantError(t, l, 0, errno)
		}
	})
}
