package race_test

import (
	"math"
	"slices"
	"strconv"
	"strings"
	"testing"

	"deadheat/api"
	"deadheat/cases"
	"deadheat/order"
	"deadheat/race"
	"deadheat/trace"
)

var badVars = []int{math.MinInt, -8, -1, 8, 9, 16, 80, 1 << 32, math.MaxInt}

// written returns the races that are written like "x0 ww 1-2; x3 rw 4-5".
func written(s string) []api.Race {
	kinds := map[string]int{"ww": 1, "wr": 2, "rw": 3}
	var l []api.Race
	for _, part := range strings.Split(s, "; ") {
		words := strings.Fields(part)
		if len(words) < 3 {
			continue
		}
		variable, _ := strconv.Atoi(words[0][1:])
		first, second, _ := strings.Cut(words[2], "-")
		a, _ := strconv.Atoi(first)
		b, _ := strconv.Atoi(second)
		l = append(l, api.Race{A: a, B: b, Var: variable, Kind: kinds[words[1]]})
	}
	return l
}

func wantAll(t *testing.T, l []api.Event, want []api.Race, wantErrno api.Errno) {
	t.Helper()
	if got, errno := race.All(l); !slices.Equal(got, want) || errno != wantErrno {
		t.Errorf("All(%v) = %v, %d, want %v, %d", l, got, errno, want, wantErrno)
	}
}

func wantSeconds(t *testing.T, l []api.Event, want []int, wantErrno api.Errno) {
	t.Helper()
	if got, errno := race.Seconds(l); !slices.Equal(got, want) || errno != wantErrno {
		t.Errorf("Seconds(%v) = %v, %d, want %v, %d", l, got, errno, want, wantErrno)
	}
}

func wantVars(t *testing.T, l []api.Event, want []int, wantErrno api.Errno) {
	t.Helper()
	if got, errno := race.Vars(l); !slices.Equal(got, want) || errno != wantErrno {
		t.Errorf("Vars(%v) = %v, %d, want %v, %d", l, got, errno, want, wantErrno)
	}
}

func wantFirst(t *testing.T, l []api.Event, x, want int, wantIs bool, wantErrno api.Errno) {
	t.Helper()
	if got, is, errno := race.First(l, x); got != want || is != wantIs || errno != wantErrno {
		t.Errorf("First(%v, %d) = %d, %t, %d, want %d, %t, %d", l, x, got, is, errno, want, wantIs, wantErrno)
	}
}

// wantError wants the same error from all functions, whatever x is.
func wantError(t *testing.T, l []api.Event, x int, want api.Errno) {
	t.Helper()
	wantAll(t, l, nil, want)
	wantSeconds(t, l, nil, want)
	wantVars(t, l, nil, want)
	wantFirst(t, l, x, 0, false, want)
}

// wantRaces wants these races and what follows from them for the other functions.
func wantRaces(t *testing.T, l []api.Event, races []api.Race) {
	t.Helper()
	wantAll(t, l, races, api.OK)
	var seconds, vars []int
	for i := range l {
		if slices.ContainsFunc(races, func(r api.Race) bool { return r.B == i }) {
			seconds = append(seconds, i)
		}
	}
	wantSeconds(t, l, seconds, api.OK)
	for x := range 8 {
		first, is := 0, false
		for _, r := range races {
			if r.Var == x && (!is || r.B < first) {
				first, is = r.B, true
			}
		}
		if is {
			vars = append(vars, x)
		}
		wantFirst(t, l, x, first, is, api.OK)
	}
	wantVars(t, l, vars, api.OK)
}

// sample is a trace with its races.
type sample struct{ trace, races string }

// samples returns traces whose races were found by reading P14.
func samples() []sample {
	const begin = "t0 fork t1; t0 fork t2; "
	return []sample{
		// The kinds, and the chapter's example: two Reads never race.
		{"t0 fork t1; t0 write x0; t1 write x0", "x0 ww 1-2"},
		{"t0 fork t1; t0 write x0; t1 read x0", "x0 wr 1-2"},
		{"t0 fork t1; t0 read x0; t1 write x0", "x0 rw 1-2"},
		{"t0 fork t1; t0 read x0; t1 read x0", ""},
		{"t0 fork t1; t1 write x7; t0 write x7", "x7 ww 1-2"},
		{"t0 fork t1; t1 write x7; t0 read x7", "x7 wr 1-2"},
		{"t0 fork t1; t1 read x7; t0 write x7", "x7 rw 1-2"},
		{begin + "t2 read x3; t1 read x3; t0 read x3", ""},
		// One thread does not race with itself, nor accesses of two variables.
		{"t0 write x0; t0 write x0; t0 read x0", ""},
		{"t0 fork t1; t0 write x0; t1 write x1; t0 read x2; t1 read x3", ""},
		// Only accesses race, whatever has the number of the variable.
		{begin + "t1 write x0; t2 acquire m0; t2 release m0; t2 see v0; t2 show v0", ""},
		{begin + "t1 acquire m1; t1 release m1; t1 see v1; t1 show v1; t2 write x1; t0 read x1", "x1 wr 6-7"},
		{begin + "t1 fork t3; t2 write x3; t1 join t3; t0 write x2", ""},
		// Every pair races, not just those without an access in between.
		{begin + "t0 write x5; t1 read x5; t2 write x5; t0 read x5",
			"x5 wr 2-3; x5 ww 2-4; x5 rw 3-4; x5 wr 4-5"},
		{"t0 fork t1; t0 write x0; t0 read x0; t1 write x0; t1 read x0",
			"x0 ww 1-3; x0 wr 1-4; x0 rw 2-3"},
		// Several variables at a time.
		{"t0 fork t1; t1 read x7; t0 write x0; t1 write x0; t0 write x7", "x7 rw 1-4; x0 ww 2-3"},
		// A Fork and the events of the forked thread.
		{"t0 write x0; t0 fork t1; t1 write x0; t0 write x0", "x0 ww 2-3"},
		{"t0 write x0; t0 fork t1; t1 fork t2; t2 write x0", ""},
		{begin + "t1 write x0; t2 write x0", "x0 ww 2-3"},
		// The events of the joined thread and a Join.
		{"t0 fork t1; t1 write x0; t0 write x0; t0 join t1; t0 write x0", "x0 ww 1-2"},
		{begin + "t1 write x0; t0 join t1; t2 write x0; t0 write x0", "x0 ww 2-4; x0 ww 4-5"},
		// A lock that both hold, and one that only one of them holds.
		{"t0 fork t1; t0 acquire m0; t0 write x0; t0 release m0; t1 acquire m0; t1 write x0; t1 release m0", ""},
		{"t0 fork t1; t0 acquire m0; t0 write x0; t0 release m0; t1 write x0", "x0 ww 2-4"},
		{"t0 fork t1; t0 acquire m0; t0 write x0; t0 release m0; t1 acquire m1; t1 read x0", "x0 wr 2-5"},
		{"t0 fork t1; t0 acquire m0; t0 release m0; t0 write x0; t1 acquire m0; t1 write x0", "x0 ww 3-5"},
		// A lock orders accesses that are beside it, too.
		{"t0 fork t1; t0 write x0; t0 acquire m4; t0 release m4; t1 acquire m4; t1 release m4; t1 write x0", ""},
		// A Show and later Sees of the same signal, but not earlier ones.
		{"t0 fork t1; t0 write x0; t0 show v0; t1 see v0; t1 read x0", ""},
		{"t0 fork t1; t0 write x0; t1 see v0; t0 show v0; t1 read x0", "x0 wr 1-4"},
		{"t0 fork t1; t0 write x0; t0 show v0; t1 see v1; t1 read x0", "x0 wr 1-4"},
		{"t0 fork t1; t0 read x0; t0 show v3; t0 read x0; t1 see v3; t1 write x0", "x0 rw 3-5"},
		// Through a third thread.
		{begin + "t1 write x2; t1 show v0; t0 see v0; t0 acquire m0; t0 release m0; t2 acquire m0; t2 write x2", ""},
		{begin + "t1 write x2; t1 show v0; t0 acquire m0; t0 see v0; t2 see v1; t2 write x2", "x2 ww 2-7"},
	}
}

// P14

func TestSamples(t *testing.T) {
	for _, s := range samples() {
		wantRaces(t, cases.Events(s.trace), written(s.races))
	}
}

// racing is P14 in its own words.
func racing(t *testing.T, l []api.Event, i, j int) (api.Race, bool) {
	t.Helper()
	a, b := l[i], l[j]
	if i >= j || a.Kind > api.Write || b.Kind > api.Write || a.Obj != b.Obj || a.Kind == api.Read && b.Kind == api.Read {
		return api.Race{}, false
	}
	leads, errno := order.Leads(l, i, j)
	if errno != api.OK {
		t.Fatalf("Leads(%v, %d, %d): %d", l, i, j, errno)
	}
	kind := api.WriteWrite
	if b.Kind == api.Read {
		kind = api.WriteRead
	} else if a.Kind == api.Read {
		kind = api.ReadWrite
	}
	return api.Race{A: i, B: j, Var: b.Obj, Kind: kind}, !leads
}

// found returns the races of a trace, each pair by itself.
func found(t *testing.T, l []api.Event) []api.Race {
	t.Helper()
	var races []api.Race
	for i := range l {
		for j := range l {
			if r, is := racing(t, l, i, j); is {
				races = append(races, r)
			}
		}
	}
	return races
}

func TestAllShortTraces(t *testing.T) {
	for l := range cases.Accesses() {
		wantRaces(t, l, found(t, l))
	}
	for l := range cases.Short() {
		wantAll(t, l, found(t, l), api.OK)
	}
}

func TestLongTraces(t *testing.T) {
	for seed := range 60 {
		l := cases.Long(80-seed%3, seed)
		wantRaces(t, l, found(t, l))
	}
}

// An event cannot change the races of those before it.
func TestRacesOfPrefixes(t *testing.T) {
	for seed := range 5 {
		l := cases.Long(80, seed)
		races := found(t, l)
		for n := range len(l) + 1 {
			wantRaces(t, l[:n], slices.DeleteFunc(slices.Clone(races), func(r api.Race) bool { return r.B >= n }))
		}
	}
}

// P15

func TestNoEvents(t *testing.T) {
	for _, l := range [][]api.Event{nil, {}} {
		wantRaces(t, l, nil)
	}
}

func TestOneThread(t *testing.T) {
	for n := range 41 {
		wantRaces(t, slices.Repeat(cases.Events("t0 write x0; t0 read x0"), n), nil)
	}
}

// In the longest traces, each of the 39 accesses of one thread can race with each
// of the 40 of the other one.
func TestMostRaces(t *testing.T) {
	l := append(cases.Events("t0 fork t1"), slices.Repeat(cases.Events("t0 write x6"), 39)...)
	l = append(l, slices.Repeat(cases.Events("t1 write x6"), 40)...)
	var want []api.Race
	for a := 1; a <= 39; a++ {
		for b := 40; b <= 79; b++ {
			want = append(want, api.Race{A: a, B: b, Var: 6, Kind: api.WriteWrite})
		}
	}
	wantRaces(t, l, want)
}

func TestSeconds(t *testing.T) {
	// All has the races 1-4, 2-3 and 2-4.
	l := cases.Events("t0 fork t1; t0 read x0; t0 write x0; t1 read x0; t1 write x0")
	wantSeconds(t, l, []int{3, 4}, api.OK)
	wantSeconds(t, l[:4], []int{3}, api.OK)
	wantSeconds(t, l[:3], nil, api.OK)
	// One access that races with many, and one with which many race.
	wantSeconds(t, cases.Events("t0 fork t1; t1 read x1; t1 write x1; t1 write x1; t0 write x1"), []int{4}, api.OK)
	wantSeconds(t, cases.Events("t0 fork t1; t1 write x1; t0 write x1; t0 read x1; t0 write x1"), []int{2, 3, 4}, api.OK)
}

func TestVars(t *testing.T) {
	const s = "t0 fork t1; t0 write x7; t0 write x3; t0 write x0; t0 read x5; t1 read x5; t1 read x0; t1 write x7; t1 read x7; t1 write x3"
	l := cases.Events(s)
	wantVars(t, l, []int{0, 3, 7}, api.OK)
	wantVars(t, l[:9], []int{0, 7}, api.OK)
	wantVars(t, l[:8], []int{0, 7}, api.OK)
	wantVars(t, l[:7], []int{0}, api.OK)
	wantVars(t, l[:6], nil, api.OK)
	l = cases.Events("t0 fork t1")
	for x := range 8 {
		l = append(l, api.Event{Kind: api.Write, Obj: 7 - x}, api.Event{Kind: api.Write, Thread: 1, Obj: 7 - x})
	}
	wantVars(t, l, []int{0, 1, 2, 3, 4, 5, 6, 7}, api.OK)
}

func TestFirst(t *testing.T) {
	// Of x0, All has the races 1-4, 2-3 and 2-4, and of x7 5-8 and 6-8.
	const s = "t0 fork t1; t0 read x0; t0 write x0; t1 read x0; t1 write x0; t1 read x7; t1 write x7; t0 read x2; t0 write x7; t1 read x2"
	l := cases.Events(s)
	for x, want := range map[int]int{0: 3, 7: 8} {
		wantFirst(t, l, x, want, true, api.OK)
	}
	for x := 1; x <= 6; x++ {
		wantFirst(t, l, x, 0, false, api.OK)
	}
	wantFirst(t, l[:8], 0, 3, true, api.OK)
	wantFirst(t, l[:8], 7, 0, false, api.OK)
	wantFirst(t, l[:3], 0, 0, false, api.OK)
}

func TestErrorsOfTraces(t *testing.T) {
	for errno, l := range cases.Invalid() {
		for x := range 8 {
			wantError(t, l, x, errno)
		}
	}
}

// An invalid event behind races is an error, and the races before it are no result.
func TestErrorBehindRaces(t *testing.T) {
	l := cases.Events("t0 fork t1; t0 write x0; t1 write x0; t1 release m0")
	wantError(t, l, 0, api.ErrFree)
	l[3] = api.Event{Kind: api.Write, Obj: 8}
	wantError(t, l, 0, api.ErrArg)
	l[3] = api.Event{Thread: 1}
	wantError(t, l, 0, api.ErrArg)
}

func TestFirstOfWhatIsNoVariable(t *testing.T) {
	for _, x := range badVars {
		wantFirst(t, nil, x, 0, false, api.ErrArg)
		wantFirst(t, cases.Events("t0 fork t1; t0 write x0; t1 write x0"), x, 0, false, api.ErrArg)
		wantFirst(t, cases.Long(80, 1), x, 0, false, api.ErrArg)
	}
}

// The error of the trace is before that of the variable.
func TestErrorOfTheTraceIsFirst(t *testing.T) {
	for errno, l := range cases.Invalid() {
		for _, x := range badVars {
			wantFirst(t, l, x, 0, false, errno)
		}
	}
}

// P1 and P2

// Whatever a list has, there is no panic, and the error is that of trace.Check.
func TestOddLists(t *testing.T) {
	for l := range cases.Odd() {
		if _, errno := trace.Check(l); errno != api.OK {
			wantError(t, l, 0, errno)
		} else {
			wantRaces(t, l, found(t, l))
		}
	}
}

func TestArgumentsAreNotModified(t *testing.T) {
	if cases.IsChanged(func(l []api.Event) {
		race.All(l)
		race.Seconds(l)
		race.Vars(l)
		for x := range 9 {
			race.First(l, x)
		}
	}) {
		t.Error("modified")
	}
}

func TestRacesAreNewlyAllocated(t *testing.T) {
	for _, s := range samples() {
		l := cases.Events(s.trace)
		all := func() []api.Race { races, _ := race.All(l); return races }
		seconds := func() []int { seconds, _ := race.Seconds(l); return seconds }
		vars := func() []int { vars, _ := race.Vars(l); return vars }
		if cases.SharesMemory(all) || cases.SharesMemory(seconds) || cases.SharesMemory(vars) {
			t.Errorf("%s: results share memory", s.trace)
		}
		wantRaces(t, l, written(s.races))
	}
}

// A result must not depend on the order in which a map is gone through, either.
func TestResultsDependOnlyOnArguments(t *testing.T) {
	cases.Together(func() {
		for _, s := range samples() {
			wantRaces(t, cases.Events(s.trace), written(s.races))
		}
		for errno, l := range cases.Invalid() {
			wantError(t, l, 0, errno)
		}
	})
}
