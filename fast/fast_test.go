package fast_test

import (
	"slices"
	"testing"

	"deadheat/api"
	"deadheat/cases"
	"deadheat/fast"
	"deadheat/full"
	"deadheat/order"
	"deadheat/trace"
)

func wantRun(t *testing.T, l []api.Event, want []api.Flag, wantErrno api.Errno) {
	t.Helper()
	if got, errno := fast.Run(l); !slices.Equal(got, want) || errno != wantErrno {
		t.Errorf("Run(%v) = %v, %d, want %v, %d", l, got, errno, want, wantErrno)
	}
}

func wantSlow(t *testing.T, l []api.Event, want int, wantErrno api.Errno) {
	t.Helper()
	if got, errno := fast.Slow(l); got != want || errno != wantErrno {
		t.Errorf("Slow(%v) = %d, %d, want %d, %d", l, got, errno, want, wantErrno)
	}
}

// wantError wants the same error from both functions.
func wantError(t *testing.T, l []api.Event, want api.Errno) {
	t.Helper()
	wantRun(t, l, nil, want)
	wantSlow(t, l, 0, want)
}

func wantResults(t *testing.T, l []api.Event, flags []api.Flag, slow int) {
	t.Helper()
	wantRun(t, l, flags, api.OK)
	wantSlow(t, l, slow, api.OK)
}

// sample is a trace with its flags and the number of its slow Reads.
type sample struct {
	trace, flags string
	slow         int
}

// samples returns traces whose flags and slow Reads were found by following P18,
// P19 and P20.
func samples() []sample {
	return slices.Concat(kinds(), repeated(), epochs(), clocks(), orders())
}

func kinds() []sample {
	return []sample{
		{"t0 fork t1; t0 write x0; t1 write x0", "2 x0 ww", 0},
		{"t0 fork t1; t0 write x0; t1 read x0", "2 x0 wr", 0},
		{"t0 fork t1; t0 read x0; t1 write x0", "2 x0 rw", 0},
		{"t0 fork t1; t0 read x0; t1 read x0", "", 1},
		{"t0 fork t1; t1 write x7; t0 write x7", "2 x7 ww", 0},
		{"t0 fork t1; t1 write x7; t0 read x7", "2 x7 wr", 0},
		{"t0 fork t1; t1 read x7; t0 write x7", "2 x7 rw", 0},
		{"t0 fork t1; t1 read x7; t0 read x7", "", 1},
		// A Write looks at W before it looks at R; a Read looks at W alone.
		{"t0 fork t1; t0 read x0; t0 write x0; t1 write x0", "3 x0 ww", 0},
		{"t0 fork t1; t0 write x0; t0 show v0; t0 read x0; t1 see v0; t1 write x0", "5 x0 rw", 0},
		{"t0 fork t1; t0 read x0; t0 show v0; t0 write x0; t1 see v0; t1 write x0", "5 x0 ww", 0},
		{"t0 fork t1; t0 read x0; t0 show v0; t0 write x0; t1 see v0; t1 read x0", "5 x0 wr", 0},
		{"t0 fork t1; t0 write x0; t0 show v0; t0 read x0; t1 see v0; t1 read x0", "", 1},
		// A thread knows its own accesses.
		{"t0 write x0; t0 read x0; t0 write x0; t0 write x0", "", 0},
		{"t0 write x0; t0 show v0; t0 read x0; t0 show v0; t0 read x0; t0 write x0", "", 0},
		// Several variables, in the order of the accesses.
		{"t0 fork t1; t1 read x7; t0 write x0; t1 write x0; t0 write x7; t1 read x3", "3 x0 ww; 4 x7 rw", 0},
		{"t0 fork t1; t0 read x0; t1 read x1; t0 read x2; t1 write x3; t0 write x4", "", 0},
		{"t0 fork t1; t0 read x0; t0 read x7; t1 read x7; t1 read x0; t1 read x1", "", 2},
	}
}

// repeated returns traces with accesses at which nothing happens.
func repeated() []sample {
	return []sample{
		// The chapter's example: even a Write that does not know R does nothing.
		{"t0 fork t1; t0 write x0; t1 read x0; t0 write x0", "2 x0 wr", 0},
		{"t0 fork t1; t0 write x0; t1 read x0; t0 show v0; t0 write x0", "2 x0 wr; 4 x0 rw", 0},
		{"t0 fork t1; t0 write x0; t1 write x0; t0 write x0; t0 write x0", "2 x0 ww; 3 x0 ww", 0},
		// It leaves R a clock, so that a later Write is flagged for it.
		{"t0 fork t1; t0 write x0; t0 read x0; t1 read x0; t0 write x0; t0 show v0; t0 write x0", "3 x0 wr; 6 x0 rw", 1},
		// A Read that repeats the last one does not even look at W.
		{"t0 fork t1; t0 read x0; t1 write x0; t0 read x0", "2 x0 rw", 0},
		{"t0 fork t1; t0 write x0; t1 read x0; t1 read x0", "2 x0 wr", 0},
		{"t0 fork t1; t0 read x0; t1 write x0; t0 show v0; t0 read x0", "2 x0 rw; 4 x0 wr", 0},
		{"t0 fork t1; t0 write x0; t1 read x0; t1 show v0; t1 read x0", "2 x0 wr; 4 x0 wr", 0},
		// See, Acquire and Join do not begin an epoch.
		{"t0 fork t1; t0 write x0; t1 read x0; t1 see v0; t1 acquire m0; t1 read x0", "2 x0 wr", 0},
		{"t0 fork t1; t0 write x0; t1 read x0; t1 acquire m0; t1 release m0; t1 read x0", "2 x0 wr; 5 x0 wr", 0},
		{"t0 fork t1; t0 fork t2; t0 write x0; t1 read x0; t0 join t2; t0 write x0", "3 x0 wr", 0},
		// If R is a clock, no Read repeats it.
		{"t0 fork t1; t0 fork t2; t0 write x0; t1 read x0; t2 read x0; t2 read x0; t1 read x0",
			"3 x0 wr; 4 x0 wr; 5 x0 wr; 6 x0 wr", 1},
		// The same number of another thread is another epoch.
		{"t0 fork t1; t1 show v0; t0 write x0; t1 write x0", "3 x0 ww", 0},
		{"t0 fork t1; t1 show v0; t0 write x0; t0 read x0; t1 read x0", "4 x0 wr", 1},
	}
}

// epochs returns traces in which it matters which epoch W or R is.
func epochs() []sample {
	return []sample{
		// A known reader is forgotten.
		{"t0 read x0; t0 fork t1; t1 read x0; t1 write x0", "", 0},
		{"t0 fork t1; t0 read x0; t0 show v0; t1 see v0; t1 read x0; t0 write x0", "5 x0 rw", 0},
		{"t0 fork t1; t0 fork t2; t1 read x0; t1 show v0; t0 see v0; t0 read x0; t2 see v0; t2 write x0", "7 x0 rw", 0},
		{"t0 fork t1; t1 read x0; t1 show v0; t0 see v0; t0 read x0; t0 show v1; t1 see v1; t1 write x0", "", 0},
		// A Write leaves R as it is if R is an epoch, known or not.
		{"t0 fork t1; t1 read x0; t0 write x0; t0 show v0; t0 write x0", "2 x0 rw; 4 x0 rw", 0},
		{"t0 fork t1; t0 read x0; t0 write x0; t1 read x0", "3 x0 wr", 1},
		// Only the last Write is remembered.
		{"t0 fork t1; t0 fork t2; t1 write x0; t2 write x0; t0 join t2; t0 write x0", "3 x0 ww", 0},
		{"t0 fork t1; t0 fork t2; t1 write x0; t2 write x0; t0 join t1; t0 write x0", "3 x0 ww; 5 x0 ww", 0},
		{"t0 fork t1; t0 fork t2; t1 write x0; t2 write x0; t0 join t2; t0 read x0", "3 x0 ww", 0},
		// W becomes E whether the Write is flagged or not, and whatever R is.
		{"t0 write x0; t0 fork t1; t1 write x0; t0 read x0", "3 x0 wr", 0},
		{"t0 fork t1; t0 read x0; t1 write x0; t0 write x0; t1 write x0", "2 x0 rw; 3 x0 ww; 4 x0 ww", 0},
		// So does R.
		{"t0 fork t1; t0 write x0; t1 read x0; t1 show v0; t0 see v0; t0 show v1; t0 write x0", "2 x0 wr", 0},
	}
}

// clocks returns traces in which R becomes a clock.
func clocks() []sample {
	const begin = "t0 fork t1; t0 fork t2; t1 read x0; t2 read x0; "
	return []sample{
		// It has the numbers of both threads,
		{begin + "t0 join t1; t0 write x0", "5 x0 rw", 1},
		{begin + "t0 join t2; t0 write x0", "5 x0 rw", 1},
		{begin + "t0 join t1; t0 join t2; t0 write x0", "", 1},
		// and of those that read later on.
		{begin + "t0 read x0; t1 join t0; t1 join t2; t1 write x0", "", 1},
		{begin + "t0 read x0; t1 join t2; t1 write x0", "6 x0 rw", 1},
		{begin + "t1 show v0; t0 see v0; t1 read x0; t0 join t2; t0 write x0", "8 x0 rw", 1},
		{begin + "t1 show v0; t0 see v0; t0 join t2; t0 write x0", "", 1},
		// A Read that knows all of it is added to it, too.
		{"t0 fork t1; t0 fork t2; t0 fork t3; t1 read x0; t2 read x0; t0 join t1; t0 join t2; t0 read x0; t3 read x0", "", 1},
		{begin + "t0 join t1; t0 join t2; t0 fork t3; t0 read x0; t3 write x0", "8 x0 rw", 1},
		// A flagged Read can make a clock of R.
		{"t0 fork t1; t0 write x0; t0 read x0; t1 read x0", "3 x0 wr", 1},
		{"t0 fork t1; t0 fork t2; t0 write x0; t1 read x0; t2 read x0; t0 write x0; t0 show v0; t0 write x0",
			"3 x0 wr; 4 x0 wr; 7 x0 rw", 1},
		// A Write makes an epoch of it again, flagged or not, and forgets all readers.
		{begin + "t0 write x0; t0 show v0; t0 write x0", "4 x0 rw", 1},
		{"t0 fork t1; t0 read x0; t1 read x0; t0 join t1; t0 write x0; t0 read x0", "", 1},
		{"t0 fork t1; t0 read x0; t1 read x0; t0 write x0; t1 read x0; t0 read x0", "3 x0 rw; 4 x0 wr", 2},
		{begin + "t0 write x0; t0 read x0; t0 show v0; t1 see v0; t1 read x0; t1 read x0", "4 x0 rw", 1},
		{begin + "t0 join t1; t0 join t2; t0 write x0; t0 fork t3; t3 read x0; t0 read x0; t3 write x0", "10 x0 rw", 2},
		// Other variables have their own.
		{begin + "t1 write x1; t1 show v0; t0 see v0; t0 read x1; t0 write x1; t0 write x0", "9 x0 rw", 1},
	}
}

// orders returns traces in which threads know of accesses, or not, through locks,
// other threads and signals.
func orders() []sample {
	const begin = "t0 fork t1; t0 fork t2; "
	return []sample{
		{"t0 fork t1; t0 acquire m0; t0 write x0; t0 release m0; t1 acquire m0; t1 write x0; t1 release m0; t0 acquire m0; t0 read x0", "", 0},
		{"t0 fork t1; t0 acquire m0; t0 release m0; t0 write x0; t1 acquire m0; t1 write x0", "5 x0 ww", 0},
		{"t0 fork t1; t0 acquire m0; t0 read x0; t0 release m0; t1 acquire m4; t1 read x0", "", 1},
		{begin + "t1 acquire m4; t1 write x0; t1 release m4; t0 acquire m4; t0 release m4; t2 acquire m4; t2 write x0", "", 0},
		{"t0 write x0; t0 fork t1; t1 write x0; t0 write x0", "3 x0 ww", 0},
		{"t0 read x0; t0 fork t1; t1 fork t2; t2 read x0", "", 0},
		{"t0 fork t5; t5 read x0; t5 fork t1; t1 read x0; t5 read x0; t5 write x0", "5 x0 rw", 1},
		{"t0 fork t1; t1 fork t2; t2 write x0; t1 join t2; t0 join t1; t0 write x0", "", 0},
		{begin + "t1 write x0; t0 join t1; t2 read x0; t2 join t1; t2 show v0; t2 read x0", "4 x0 wr", 0},
		{"t0 fork t1; t0 write x0; t1 see v0; t0 show v0; t1 write x0", "4 x0 ww", 0},
		{"t0 fork t1; t0 read x0; t0 show v0; t1 see v3; t1 read x0", "", 1},
		{begin + "t1 read x1; t1 show v3; t2 show v3; t0 see v3; t0 read x1; t0 write x1", "", 0},
	}
}

// P18, P19 and P20

func TestSamples(t *testing.T) {
	for _, s := range samples() {
		wantResults(t, cases.Events(s.trace), cases.Flags(s.flags), s.slow)
	}
}

// model follows P19 with accesses in place of epochs: an epoch of another thread is
// known if an access in it happens before the event.
type model struct {
	l      []api.Event
	before map[api.Pair]bool
	vars   [8]past
	flags  []api.Flag
	slow   int
}

// past has the Write whose epoch is W, if any, and the Reads that R is made of.
type past struct {
	writes, reads []int
	isClock       bool
}

// modelled returns the flags and the number of slow Reads of a trace.
func modelled(t *testing.T, l []api.Event) ([]api.Flag, int) {
	t.Helper()
	pairs, errno := order.Before(l)
	if errno != api.OK {
		t.Fatalf("Before(%v): %d", l, errno)
	}
	m := model{l: l, before: map[api.Pair]bool{}}
	for _, p := range pairs {
		m.before[p] = true
	}
	for i, e := range l {
		switch e.Kind {
		case api.Read:
			m.read(i, &m.vars[e.Obj])
		case api.Write:
			m.write(i, &m.vars[e.Obj])
		}
	}
	return m.flags, m.slow
}

func (m *model) read(i int, x *past) {
	if !x.isClock && m.repeats(x.reads, i) {
		return
	}
	if !m.knows(i, x.writes) {
		m.flag(i, api.WriteRead)
	}
	switch {
	case x.isClock:
		x.reads = append(x.reads, i)
	case m.knows(i, x.reads):
		x.reads = []int{i}
	default:
		x.reads, x.isClock = append(x.reads, i), true
		m.slow++
	}
}

func (m *model) write(i int, x *past) {
	if m.repeats(x.writes, i) {
		return
	}
	if !m.knows(i, x.writes) {
		m.flag(i, api.WriteWrite)
	} else if !m.knows(i, x.reads) {
		m.flag(i, api.ReadWrite)
	}
	x.writes = []int{i}
	if x.isClock {
		x.reads, x.isClock = nil, false
	}
}

func (m *model) flag(i, kind int) {
	m.flags = append(m.flags, api.Flag{At: i, Var: m.l[i].Obj, Kind: kind})
}

func (m *model) knows(i int, accesses []int) bool {
	return !slices.ContainsFunc(accesses, func(a int) bool { return !m.before[api.Pair{A: a, B: i}] })
}

// repeats reports whether i is an access in the same epoch as the only one of some
// accesses: its thread has passed on nothing in between.
func (m *model) repeats(accesses []int, i int) bool {
	return len(accesses) == 1 && m.l[accesses[0]].Thread == m.l[i].Thread &&
		!slices.ContainsFunc(m.l[accesses[0]:i], func(e api.Event) bool {
			return e.Thread == m.l[i].Thread && (e.Kind == api.Release || e.Kind == api.Fork || e.Kind == api.Show)
		})
}

// wantModelled wants the results of the model, and, as the first flag of each
// variable, the first one of the detector of chapter 8.
func wantModelled(t *testing.T, l []api.Event) {
	t.Helper()
	flags, slow := modelled(t, l)
	wantResults(t, l, flags, slow)
	all, errno := full.Run(l)
	if got, want := firsts(flags), firsts(all); got != want || errno != api.OK {
		t.Errorf("Run(%v): first flags %v, want %v, %d", l, got, want, errno)
	}
}

func firsts(flags []api.Flag) [8]api.Flag {
	var first [8]api.Flag
	for _, f := range flags {
		if first[f.Var].Kind == 0 {
			first[f.Var] = f
		}
	}
	return first
}

func TestAllShortTraces(t *testing.T) {
	for l := range cases.Accesses() {
		wantModelled(t, l)
	}
	for l := range cases.Short() {
		wantModelled(t, l)
	}
}

func TestLongTraces(t *testing.T) {
	for seed := range 200 {
		wantModelled(t, cases.Long(80-seed%3, seed))
	}
}

// An event changes neither the flags of those before it nor which of them is slow.
func TestPrefixes(t *testing.T) {
	for seed := range 20 {
		l := cases.Long(80, seed)
		flags, _ := modelled(t, l)
		for n := range len(l) + 1 {
			_, slow := modelled(t, l[:n])
			wantResults(t, l[:n], slices.DeleteFunc(slices.Clone(flags), func(f api.Flag) bool { return f.At >= n }), slow)
		}
	}
}

// Detectors that divide the variables of a trace flag what Run flags, even if they
// get their accesses one detector after the other.
func TestDetectorsThatDivideVariables(t *testing.T) {
	for seed := range 40 {
		l := cases.Long(80, seed)
		want, _ := modelled(t, l)
		accesses, _ := full.Accesses(l)
		for n := 1; n <= 9; n++ {
			var got []api.Flag
			for mine := range n {
				got = append(got, flagsOf(t, accesses, func(x int) bool { return x%n == mine })...)
			}
			slices.SortFunc(got, func(f, g api.Flag) int { return f.At - g.At })
			if !slices.Equal(got, want) {
				t.Errorf("%d detectors, %v: %v, want %v", n, l, got, want)
			}
		}
	}
}

// flagsOf returns the flags of a new detector that gets the accesses of some variables.
func flagsOf(t *testing.T, accesses []full.Access, isMine func(x int) bool) []api.Flag {
	t.Helper()
	var flags []api.Flag
	d := fast.New()
	for _, a := range accesses {
		if !isMine(a.Obj) {
			continue
		}
		flag, is := d.Access(a)
		if is {
			flags = append(flags, flag)
		} else if flag != (api.Flag{}) {
			t.Errorf("Access(%v) = %v, false", a, flag)
		}
	}
	return flags
}

func TestNoEvents(t *testing.T) {
	for _, l := range [][]api.Event{nil, {}} {
		wantResults(t, l, nil, 0)
	}
}

func TestOneThread(t *testing.T) {
	for n := range 21 {
		wantResults(t, slices.Repeat(cases.Events("t0 write x0; t0 read x0; t0 show v0; t0 read x0"), n), nil, 0)
	}
}

// In the longest traces, R can become a clock 26 times, and all Reads but the first
// can be flagged.
func TestLongestTraces(t *testing.T) {
	l := append(cases.Events("t0 fork t1"),
		slices.Repeat(cases.Events("t0 read x6; t1 read x6; t0 write x6; t0 read x6; t1 read x6; t1 write x6"), 13)...)
	want := cases.Flags("3 x6 rw; 5 x6 wr; 6 x6 ww")
	for at := 7; at < 79; at += 6 {
		for _, f := range cases.Flags("0 x6 wr; 2 x6 ww; 4 x6 wr; 5 x6 ww") {
			want = append(want, api.Flag{At: at + f.At, Var: f.Var, Kind: f.Kind})
		}
	}
	wantResults(t, l, want, 26)
	l = append(cases.Events("t0 fork t1; t0 write x6; t0 read x6"), slices.Repeat(cases.Events("t1 read x6"), 77)...)
	want = nil
	for at := 3; at < 80; at++ {
		want = append(want, api.Flag{At: at, Var: 6, Kind: api.WriteRead})
	}
	wantResults(t, l, want, 1)
}

// All six threads and all eight variables have their own numbers.
func TestAllThreadsAndVariables(t *testing.T) {
	l := cases.Events("t0 fork t1; t0 fork t2; t0 fork t3; t0 fork t4; t0 fork t5")
	for x := range 8 {
		for thread := range 6 {
			l = append(l, api.Event{Kind: api.Read, Thread: thread, Obj: x})
		}
	}
	wantResults(t, l, nil, 8)
	for thread := 5; thread >= 1; thread-- {
		l = append(l, api.Event{Kind: api.Write, Obj: thread})
		l = append(l, api.Event{Kind: api.Join, Obj: thread})
	}
	l = append(l, cases.Events("t0 write x0; t0 write x6; t0 write x7")...)
	wantResults(t, l, cases.Flags("53 x5 rw; 55 x4 rw; 57 x3 rw; 59 x2 rw; 61 x1 rw"), 8)
}

func TestErrorsOfTraces(t *testing.T) {
	for errno, l := range cases.Invalid() {
		wantError(t, l, errno)
	}
}

// An invalid event behind flags and slow Reads is an error, and what was before it
// is no result.
func TestErrorBehindFlags(t *testing.T) {
	l := cases.Events("t0 fork t1; t0 read x0; t1 read x0; t1 write x0; t1 release m0")
	wantResults(t, l[:4], cases.Flags("3 x0 rw"), 1)
	wantError(t, l, api.ErrFree)
	l[4] = api.Event{Kind: api.Write, Obj: 8}
	wantError(t, l, api.ErrArg)
	l[4] = api.Event{Thread: 1}
	wantError(t, l, api.ErrArg)
	wantError(t, slices.Repeat(l[:4], 30), api.ErrLarge)
}

// P1 and P2

// Whatever a list has, there is no panic, and the error is that of trace.Check.
func TestOddLists(t *testing.T) {
	for l := range cases.Odd() {
		if _, errno := trace.Check(l); errno != api.OK {
			wantError(t, l, errno)
		} else {
			wantModelled(t, l)
		}
	}
}

func TestArgumentsAreNotModified(t *testing.T) {
	if cases.IsChanged(func(l []api.Event) {
		fast.Run(l)
		fast.Slow(l)
	}) {
		t.Error("modified")
	}
}

func TestFlagsAreNewlyAllocated(t *testing.T) {
	for _, s := range samples() {
		l := cases.Events(s.trace)
		if cases.SharesMemory(func() []api.Flag { flags, _ := fast.Run(l); return flags }) {
			t.Errorf("%s: results share memory", s.trace)
		}
		wantResults(t, l, cases.Flags(s.flags), s.slow)
	}
}

func TestResultsDependOnlyOnArguments(t *testing.T) {
	cases.Together(func() {
		for _, s := range samples() {
			wantResults(t, cases.Events(s.trace), cases.Flags(s.flags), s.slow)
		}
		for errno, l := range cases.Invalid() {
			wantError(t, l, errno)
		}
	})
}
