package stripe_test

import (
	"math"
	"slices"
	"testing"

	"deadheat/api"
	"deadheat/cases"
	"deadheat/fast"
	"deadheat/stripe"
)

func wantRun(t *testing.T, hands int, l []api.Event, want []api.Flag, wantErrno api.Errno) {
	t.Helper()
	if got, errno := stripe.Run(hands, l); !slices.Equal(got, want) || errno != wantErrno {
		t.Errorf("Run(%d, %v) = %v, %d, want %v, %d", hands, l, got, errno, want, wantErrno)
	}
}

func wantAll(t *testing.T, hands int, l [][]api.Event, flags []api.Flag, numbers []int, wantErrno api.Errno) {
	t.Helper()
	f, n, errno := stripe.All(hands, l)
	if !slices.Equal(f, flags) || !slices.Equal(n, numbers) || errno != wantErrno {
		t.Errorf("All(%d, %v) = %v, %v, %d, want %v, %v, %d", hands, l, f, n, errno, flags, numbers, wantErrno)
	}
}

// wantFlags wants the flags from all numbers of goroutines.
func wantFlags(t *testing.T, l []api.Event, want []api.Flag) {
	t.Helper()
	for hands := 1; hands <= 8; hands++ {
		wantRun(t, hands, l, want, api.OK)
	}
}

// wantResults wants the results from all numbers of goroutines.
func wantResults(t *testing.T, l [][]api.Event, flags []api.Flag, numbers []int) {
	t.Helper()
	for hands := 1; hands <= 8; hands++ {
		wantAll(t, hands, l, flags, numbers, api.OK)
	}
}

// badHands returns numbers of goroutines that are out of range.
func badHands() []int {
	return []int{math.MinInt, -8, -1, 0, 9, 10, 40, 80, 1<<32 + 1, math.MaxInt}
}

// sample is a trace with its flags.
type sample struct{ trace, flags string }

// samples returns traces whose flags were found by following P18, P19 and P20.
func samples() []sample {
	return []sample{
		// No variable, and one.
		{"t0 fork t1; t1 acquire m0; t0 show v0", ""},
		{"t0 read x5", ""},
		{"t0 fork t1; t0 write x5; t1 write x5", "2 x5 ww"},
		{"t0 fork t1; t1 write x0; t0 read x0", "2 x0 wr"},
		{"t0 fork t1; t0 read x7; t1 write x7", "2 x7 rw"},
		{"t0 fork t1; t0 read x7; t1 read x7; t0 read x6; t1 write x6", "4 x6 rw"},
		// Accesses of one variable are not those of another one, also of one that the same
		// goroutine processes.
		{"t0 fork t1; t0 write x0; t1 write x1; t0 write x2; t1 write x3; t0 write x4; t1 write x5; t0 write x6; t1 write x7", ""},
		{"t0 fork t1; t0 write x1; t1 write x5; t1 read x3; t0 read x5; t0 read x1; t1 write x3", "4 x5 wr"},
		// The flags are in the order of the events, whatever their variables are.
		{"t0 fork t1; t1 read x7; t0 write x0; t1 write x0; t0 write x7; t1 read x3", "3 x0 ww; 4 x7 rw"},
		{"t0 fork t1; t0 write x2; t0 read x1; t0 write x0; t1 write x1; t1 read x0; t1 write x2", "4 x1 rw; 5 x0 wr; 6 x2 ww"},
		{"t0 fork t1; t0 write x0; t0 read x1; t0 write x2; t1 write x2; t1 write x1; t1 read x0; t0 write x1; t0 write x0",
			"4 x2 ww; 5 x1 rw; 6 x0 wr; 7 x1 ww"},
		// Events of other kinds order accesses, whoever processes those.
		{"t0 fork t1; t0 acquire m0; t0 write x0; t0 write x1; t0 release m0; t1 acquire m0; t1 write x0; t1 write x1; t0 write x0", "8 x0 ww"},
		{"t0 write x3; t0 fork t1; t0 write x4; t1 write x3; t1 write x4; t0 join t1; t0 write x3; t0 write x4", "4 x4 ww"},
		{"t0 fork t1; t0 write x6; t0 show v1; t0 write x7; t1 see v1; t1 read x7; t1 read x6", "5 x7 wr"},
		{"t0 fork t1; t0 write x6; t1 see v1; t0 show v1; t1 read x6; t1 see v1; t1 write x6", "4 x6 wr"},
		// Epochs: an access can repeat one, also if there are accesses of other variables between.
		{"t0 fork t1; t0 write x0; t1 read x0; t1 read x1; t1 read x0; t1 read x4", "2 x0 wr"},
		{"t0 fork t1; t0 write x0; t0 write x1; t1 read x0; t0 write x0; t1 write x1; t1 write x0", "3 x0 wr; 5 x1 ww; 6 x0 ww"},
		{"t0 fork t1; t0 write x0; t1 read x0; t1 show v0; t1 read x0; t0 show v1; t0 write x0", "2 x0 wr; 4 x0 wr; 6 x0 rw"},
		// Clocks: all readers count, and a Write forgets them.
		{"t0 fork t1; t0 fork t2; t1 read x2; t2 read x2; t1 read x5; t2 read x5; t0 join t1; t0 write x5; t0 join t2; t0 write x2", "7 x5 rw"},
		{"t0 fork t1; t0 read x0; t1 read x0; t0 read x1; t0 write x0; t1 read x0; t0 read x0; t1 write x1", "4 x0 rw; 5 x0 wr; 7 x1 rw"},
	}
}

// P32

func TestSamples(t *testing.T) {
	for _, s := range samples() {
		wantFlags(t, cases.Events(s.trace), cases.Flags(s.flags))
	}
}

func TestNoEvents(t *testing.T) {
	wantFlags(t, nil, nil)
	wantFlags(t, []api.Event{}, nil)
}

// All six threads and all eight variables have their own numbers.
func TestAllThreadsAndVariables(t *testing.T) {
	l := cases.Events("t0 fork t1; t0 fork t2; t0 fork t3; t0 fork t4; t0 fork t5")
	for x := range 8 {
		for thread := range 6 {
			l = append(l, api.Event{Kind: api.Read, Thread: thread, Obj: x})
		}
	}
	wantFlags(t, l, nil)
	for thread := 5; thread >= 1; thread-- {
		l = append(l, api.Event{Kind: api.Write, Obj: thread})
		l = append(l, api.Event{Kind: api.Join, Obj: thread})
	}
	l = append(l, cases.Events("t0 write x0; t0 write x6; t0 write x7")...)
	wantFlags(t, l, cases.Flags("53 x5 rw; 55 x4 rw; 57 x3 rw; 59 x2 rw; 61 x1 rw"))
}

// In the longest traces, nearly all events can be flagged: 77 of one variable, or 71
// of all variables by turns.
func TestLongestTraces(t *testing.T) {
	l := append(cases.Events("t0 fork t1; t0 write x6; t0 read x6"), slices.Repeat(cases.Events("t1 read x6"), 77)...)
	var want []api.Flag
	for at := 3; at < 80; at++ {
		want = append(want, api.Flag{At: at, Var: 6, Kind: api.WriteRead})
	}
	wantFlags(t, l, want)
	l, want = cases.Events("t0 fork t1"), nil
	for at := 1; at < 80; at++ {
		e := api.Event{Kind: api.Write, Thread: at / 8 % 2, Obj: 3 * at % 8}
		l = append(l, e)
		if at > 8 {
			want = append(want, api.Flag{At: at, Var: e.Obj, Kind: api.WriteWrite})
		}
	}
	wantFlags(t, l, want)
	wantAll(t, 8, slices.Repeat([][]api.Event{l}, 40), slices.Repeat(want, 40), slices.Repeat([]int{71}, 40), api.OK)
}

// wantFast wants the result of fast.Run.
func wantFast(t *testing.T, hands int, l []api.Event) {
	t.Helper()
	want, errno := fast.Run(l)
	wantRun(t, hands, l, want, errno)
}

func TestAllShortTraces(t *testing.T) {
	n := 0
	for l := range cases.Accesses() {
		wantFast(t, n%8+1, l)
		n++
	}
	for l := range cases.Short() {
		wantFast(t, n%8+1, l)
		n++
	}
}

func TestLongTraces(t *testing.T) {
	for seed := range 200 {
		for hands := 1; hands <= 8; hands++ {
			wantFast(t, hands, cases.Long(80-seed%3, seed))
		}
	}
}

// The order in which the goroutines go on differs from time to time.
func TestResultsStayTheSame(t *testing.T) {
	l := cases.Long(80, 3)
	want, _ := fast.Run(l)
	traces := [][]api.Event{l, l[:40], nil, l[:20], {{}}, l[:60]}
	flags, numbers := together(traces)
	for range 300 {
		wantFlags(t, l, want)
		wantResults(t, traces, flags, numbers)
	}
}

func TestErrorsOfRun(t *testing.T) {
	for errno, l := range cases.Invalid() {
		for hands := 1; hands <= 8; hands++ {
			wantRun(t, hands, l, nil, errno)
		}
	}
}

func TestWrongHandsOfRun(t *testing.T) {
	for _, hands := range badHands() {
		wantRun(t, hands, nil, nil, api.ErrArg)
		wantRun(t, hands, cases.Events("t0 fork t1; t0 write x0; t1 write x0"), nil, api.ErrArg)
		for _, l := range cases.Invalid() {
			wantRun(t, hands, l, nil, api.ErrArg)
		}
	}
}

// An invalid event behind flags is an error, and what was before it is no result.
func TestErrorBehindFlags(t *testing.T) {
	l := cases.Events("t0 fork t1; t0 write x0; t1 write x0; t1 write x1; t0 read x1; t1 release m0")
	wantFlags(t, l[:5], cases.Flags("2 x0 ww; 4 x1 wr"))
	for hands := 1; hands <= 8; hands++ {
		wantRun(t, hands, l, nil, api.ErrFree)
		wantRun(t, hands, append(l[:5:5], api.Event{Kind: api.Write, Obj: 8}), nil, api.ErrArg)
		wantRun(t, hands, slices.Repeat(l[:5], 20), nil, api.ErrLarge)
	}
}

// P33

// together returns the flags of fast.Run of all traces, and their numbers.
func together(l [][]api.Event) ([]api.Flag, []int) {
	var flags []api.Flag
	var numbers []int
	for _, trace := range l {
		some, errno := fast.Run(trace)
		flags = append(flags, some...)
		if errno == api.OK {
			numbers = append(numbers, len(some))
		} else {
			numbers = append(numbers, -1)
		}
	}
	return flags, numbers
}

// traces returns the traces with the given texts.
func traces(texts ...string) [][]api.Event {
	var l [][]api.Event
	for _, s := range texts {
		l = append(l, cases.Events(s))
	}
	return l
}

func TestSeveralTraces(t *testing.T) {
	l := traces("t0 fork t1; t0 write x5; t1 write x5; t0 read x5", "t0 read x0", "t0 fork t1; t1 read x0; t0 write x0")
	// Each trace begins anew: neither its threads nor its accesses are those of another one.
	wantResults(t, l, cases.Flags("2 x5 ww; 3 x5 wr; 2 x0 rw"), []int{2, 0, 1})
	// Flags stay in the order of the traces.
	slices.Reverse(l)
	wantResults(t, l, cases.Flags("2 x0 rw; 2 x5 ww; 3 x5 wr"), []int{1, 0, 2})
}

// Only errors have the number -1, and they keep their place.
func TestTracesWithErrors(t *testing.T) {
	l := traces("t0 fork t1; t0 fork t1", "t0 fork t1; t0 write x5; t1 write x5", "t1 read x0",
		"t0 fork t1; t1 read x3; t0 write x3; t1 release m0", "t0 fork t1; t1 read x0; t0 write x0")
	wantResults(t, l, cases.Flags("2 x5 ww; 2 x0 rw"), []int{-1, 1, -1, -1, 1})
	l[1], l[4] = nil, []api.Event{}
	wantResults(t, l, nil, []int{-1, 0, -1, -1, 0})
	for errno, invalid := range cases.Invalid() {
		if _, got := fast.Run(invalid); got != errno {
			t.Errorf("fast.Run(%v): %d, want %d", invalid, got, errno)
		}
		wantResults(t, [][]api.Event{invalid}, nil, []int{-1})
		wantResults(t, [][]api.Event{l[1], invalid, invalid, l[4]}, nil, []int{0, -1, -1, 0})
	}
}

func TestSamplesTogether(t *testing.T) {
	var l [][]api.Event
	var flags []api.Flag
	var numbers []int
	for _, s := range samples() {
		l = append(l, cases.Events(s.trace))
		flags = append(flags, cases.Flags(s.flags)...)
		numbers = append(numbers, len(cases.Flags(s.flags)))
		wantResults(t, l, flags, numbers)
	}
}

func TestNoTraces(t *testing.T) {
	wantResults(t, nil, nil, nil)
	wantResults(t, [][]api.Event{}, nil, nil)
}

func TestManyTraces(t *testing.T) {
	for n := range 41 {
		var l [][]api.Event
		for i := range n {
			l = append(l, cases.Long(4+(i*7+n)%77, i))
			if (i+n)%9 == 0 {
				l[i][i%4].Kind = 9
			}
		}
		flags, numbers := together(l)
		wantResults(t, l, flags, numbers)
	}
}

func TestErrorsOfAll(t *testing.T) {
	one := cases.Events("t0 fork t1; t0 write x5; t1 write x5")
	flag := cases.Flags("2 x5 ww")
	for _, n := range []int{41, 42, 80, 1000} {
		for hands := 1; hands <= 8; hands++ {
			wantAll(t, hands, slices.Repeat([][]api.Event{one}, n), nil, nil, api.ErrLarge)
			wantAll(t, hands, make([][]api.Event, n), nil, nil, api.ErrLarge)
		}
	}
	wantResults(t, slices.Repeat([][]api.Event{one}, 40), slices.Repeat(flag, 40), slices.Repeat([]int{1}, 40))
	for _, hands := range badHands() {
		for _, n := range []int{0, 1, 40, 41, 1000} {
			wantAll(t, hands, slices.Repeat([][]api.Event{one}, n), nil, nil, api.ErrArg)
		}
		wantAll(t, hands, [][]api.Event{{{}}}, nil, nil, api.ErrArg)
	}
}
