package prog_test

import (
	"math"
	"slices"
	"strings"
	"testing"

	"deadheat/api"
	"deadheat/cases"
	"deadheat/prog"
)

// Numbers that are not one of at most eight things, such as threads or variables.
var badNumbers = []int{math.MinInt, -1 << 32, -1001, -1, 8, 9, 12, 63, 64, 1 << 32, math.MaxInt}

func wantRun(t *testing.T, p [][]api.Op, picks []int, want api.End, events []api.Event) {
	t.Helper()
	end, l, errno := prog.Run(p, picks)
	if end != want || !slices.Equal(l, events) || errno != api.OK {
		t.Errorf("Run(%v, %v) = %v, %v, %d, want %v, %v", p, picks, end, l, errno, want, events)
	}
}

func wantAble(t *testing.T, p [][]api.Op, picks []int, want []int) {
	t.Helper()
	if got, errno := prog.Able(p, picks); !slices.Equal(got, want) || errno != api.OK {
		t.Errorf("Able(%v, %v) = %v, %d, want %v", p, picks, got, errno, want)
	}
}

// wantRunError wants an error of the functions with picks, and nothing beside it.
func wantRunError(t *testing.T, p [][]api.Op, picks []int, want api.Errno) {
	t.Helper()
	if able, errno := prog.Able(p, picks); len(able) != 0 || errno != want {
		t.Errorf("Able(%v, %d picks) = %v, %d, want error %d", p, len(picks), able, errno, want)
	}
	if end, l, errno := prog.Run(p, picks); end != (api.End{}) || len(l) != 0 || errno != want {
		t.Errorf("Run(%v, %d picks) = %v, %v, %d, want error %d", p, len(picks), end, l, errno, want)
	}
}

func wantAlone(t *testing.T, p [][]api.Op, thread int, want []api.Pair, wantErrno api.Errno) {
	t.Helper()
	if got, errno := prog.Alone(p, thread); !slices.Equal(got, want) || errno != wantErrno {
		t.Errorf("Alone(%v, %d) = %v, %d, want %v, %d", p, thread, got, errno, want, wantErrno)
	}
}

// wantError wants an error of a program from all functions, whatever comes with it.
func wantError(t *testing.T, p [][]api.Op, want api.Errno) {
	t.Helper()
	if errno := prog.Check(p); errno != want {
		t.Errorf("Check(%v) = %d, want %d", p, errno, want)
	}
	for _, picks := range [][]int{nil, {0}, {0, 0, 1, -1, 9}, make([]int, 101)} {
		wantRunError(t, p, picks, want)
	}
	for _, thread := range []int{0, 1, 5, 6, -1, len(p)} {
		wantAlone(t, p, thread, nil, want)
	}
}

// wantValid wants that no function returns an error of a program.
func wantValid(t *testing.T, p [][]api.Op) {
	t.Helper()
	if errno := prog.Check(p); errno != api.OK {
		t.Errorf("Check(%v) = %d", p, errno)
	}
	if _, _, errno := prog.Run(p, []int{0, 1, 0, 1}); errno != api.OK {
		t.Errorf("Run(%v) = %d", p, errno)
	}
	for thread := range p {
		if _, errno := prog.Alone(p, thread); errno != api.OK {
			t.Errorf("Alone(%v, %d) = %d", p, thread, errno)
		}
	}
}

// P27: the errors of programs

func TestNumbersOfThreads(t *testing.T) {
	for _, n := range []int{0, 1, 2, 5, 6, 7, 8, 12, 1000, 100000} {
		for _, ops := range [][]api.Op{nil, cases.Program("load x0")[0]} {
			p := slices.Repeat([][]api.Op{ops}, n)
			if 1 <= n && n <= 6 {
				wantValid(t, p)
			} else {
				wantError(t, p, api.ErrLarge)
			}
		}
	}
	wantError(t, nil, api.ErrLarge)
}

func TestNumbersOfOperations(t *testing.T) {
	for _, n := range []int{0, 1, 11, 12, 13, 14, 72, 1000, 100000} {
		for thread := range 6 {
			p := cases.Program("fork t1 | load x0 | | load x0 | | load x0")
			p[thread] = slices.Repeat([]api.Op{{Kind: api.OLoad}}, n)
			if n <= 12 {
				wantValid(t, p)
			} else {
				wantError(t, p, api.ErrLarge)
			}
		}
	}
	wantValid(t, slices.Repeat([][]api.Op{slices.Repeat([]api.Op{{Kind: api.OAdd, N: 1}}, 12)}, 6))
}

// wantOp wants an error, or none, of a program with an operation at each place.
func wantOp(t *testing.T, op api.Op, isValid bool) {
	t.Helper()
	for thread := range 3 {
		for at := range 3 {
			p := cases.Program("fork t1; lock m4; add 1000 | store x7; see v3; add -1000 | fork t5; unlock m0; join t5")
			p[thread][at] = op
			if isValid {
				wantValid(t, p)
			} else {
				wantError(t, p, api.ErrArg)
			}
		}
	}
}

func TestKinds(t *testing.T) {
	for kind := 1; kind <= 9; kind++ {
		wantOp(t, api.Op{Kind: kind}, true)
	}
	for _, kind := range []int{math.MinInt, -9, -1, 0, 10, 11, 16, 1 << 32, 1<<32 + 1, math.MaxInt} {
		for obj := range 3 {
			wantOp(t, api.Op{Kind: kind, Obj: obj}, false)
			wantOp(t, api.Op{Kind: kind, Obj: obj, N: 1}, false)
		}
	}
}

func TestObjects(t *testing.T) {
	for kind, last := range map[int]int{
		api.OLoad: 7, api.OStore: 7, api.OAdd: 0, api.OLock: 4, api.OUnlock: 4, api.OFork: 5, api.OJoin: 5, api.OSee: 3, api.OShow: 3,
	} {
		for obj := range last + 1 {
			wantOp(t, api.Op{Kind: kind, Obj: obj}, true)
		}
		for _, obj := range append(badNumbers, last+1, last+2) {
			wantOp(t, api.Op{Kind: kind, Obj: obj}, false)
		}
	}
}

func TestNumbers(t *testing.T) {
	for kind := 1; kind <= 9; kind++ {
		for _, n := range []int{math.MinInt, -1 << 32, -1002, -1001, 1001, 1002, 1 << 32, math.MaxInt} {
			wantOp(t, api.Op{Kind: kind, N: n}, false)
		}
		for _, n := range []int{-1000, -999, -1, 1, 2, 999, 1000} {
			wantOp(t, api.Op{Kind: kind, N: n}, kind == api.OAdd)
		}
	}
	for n := -1000; n <= 1000; n++ {
		p := [][]api.Op{{{Kind: api.OAdd, N: n}}}
		wantRun(t, p, []int{0}, api.End{Has: [6]int{n}, Done: true}, nil)
	}
}

// Too many operations are an error also behind one that is none, and so are too many threads.
func TestErrLargeBeforeErrArg(t *testing.T) {
	bad := []api.Op{{Kind: api.OLoad, N: 1}}
	many := slices.Repeat(cases.Program("load x0")[0], 13)
	wantError(t, [][]api.Op{bad, many}, api.ErrLarge)
	wantError(t, [][]api.Op{many, bad}, api.ErrLarge)
	wantError(t, [][]api.Op{bad, nil, nil, nil, nil, many}, api.ErrLarge)
	wantError(t, [][]api.Op{append(bad[:1:1], many...)}, api.ErrLarge)
	wantError(t, [][]api.Op{append(many[:12:12], bad...)}, api.ErrLarge)
	wantError(t, [][]api.Op{bad, bad, bad, bad, bad, bad, bad}, api.ErrLarge)
	wantError(t, [][]api.Op{bad, bad, bad, bad, bad, bad}, api.ErrArg)
	wantError(t, [][]api.Op{append(many[:11:11], bad...)}, api.ErrArg)
	wantError(t, [][]api.Op{make([]api.Op, 13)}, api.ErrLarge)
	wantError(t, [][]api.Op{make([]api.Op, 12)}, api.ErrArg)
}

// P28 and P29

// sample is a program with picks and what they come to.
type sample struct {
	program string
	picks   []int
	events  string
	end     api.End
}

func (s sample) want(t *testing.T) {
	t.Helper()
	var events []api.Event
	if s.events != "" {
		events = cases.Events(s.events)
	}
	wantRun(t, cases.Program(s.program), s.picks, s.end, events)
}

// of returns an array that has some numbers at their indices.
func of[A [4]int | [6]int | [8]int](numbers map[int]int) A {
	var a A
	for at, n := range numbers {
		a[at] = n
	}
	return a
}

// effects returns samples of what operations do.
func effects() []sample {
	return []sample{
		{"add 5; store x3; add 1; load x3", []int{0, 0, 0}, "t0 write x3",
			api.End{Mem: of[[8]int](map[int]int{3: 5}), Has: [6]int{6}}},
		{"add 5; store x3; add 1; load x3", []int{0, 0, 0, 0}, "t0 write x3; t0 read x3",
			api.End{Mem: of[[8]int](map[int]int{3: 5}), Has: [6]int{5}, Done: true}},
		// A Load replaces the register, whatever it was, and a Store leaves it.
		{"add 3; load x0", []int{0, 0}, "t0 read x0", api.End{Done: true}},
		{"add 3; store x7; store x2; add -5; store x7", []int{0, 0, 0, 0, 0}, "t0 write x7; t0 write x2; t0 write x7",
			api.End{Mem: of[[8]int](map[int]int{2: 3, 7: -2}), Has: [6]int{-2}, Done: true}},
		{"add 1000; add 1000; add -1000; add 0; add -7", []int{0, 0, 0, 0, 0}, "", api.End{Has: [6]int{993}, Done: true}},
		// Signals are not variables.
		{"add 2; show v3; add 2; store x3; see v3", []int{0, 0, 0, 0, 0}, "t0 show v3; t0 write x3; t0 see v3",
			api.End{Mem: of[[8]int](map[int]int{3: 4}), Vols: of[[4]int](map[int]int{3: 2}), Has: [6]int{2}, Done: true}},
		{"add 9; store x1; see v1", []int{0, 0, 0}, "t0 write x1; t0 see v1", api.End{Mem: [8]int{0, 9}, Done: true}},
		{"add 9; show v1; load x1", []int{0, 0, 0}, "t0 show v1; t0 read x1", api.End{Vols: [4]int{0, 9}, Done: true}},
		// Each thread has a register of its own. Variables and signals belong to all.
		{"fork t1; add 1; store x0 | add 2; load x0; add 4", []int{0, 1, 0, 0, 1, 1}, "t0 fork t1; t0 write x0; t1 read x0",
			api.End{Mem: [8]int{1}, Has: [6]int{1, 5}, Done: true}},
		{"fork t1; see v2 | add -1; show v2", []int{0, 1, 1, 0}, "t0 fork t1; t1 show v2; t0 see v2",
			api.End{Vols: [4]int{0, 0, -1}, Has: [6]int{-1, -1}, Done: true}},
		// What one of two threads adds is lost if both load before one stores.
		{"fork t1; load x0; add 1; store x0 | load x0; add 1; store x0", []int{0, 0, 1, 1, 0, 0, 1},
			"t0 fork t1; t0 read x0; t1 read x0; t0 write x0; t1 write x0", api.End{Mem: [8]int{1}, Has: [6]int{1, 1}, Done: true}},
		{"fork t1; load x0; add 1; store x0 | load x0; add 1; store x0", []int{0, 0, 0, 0, 1, 1, 1},
			"t0 fork t1; t0 read x0; t0 write x0; t1 read x0; t1 write x0", api.End{Mem: [8]int{2}, Has: [6]int{1, 2}, Done: true}},
	}
}

// locks returns samples of OLock and OUnlock.
func locks() []sample {
	return []sample{
		{"lock m0; lock m4; unlock m0; unlock m4", []int{0, 0, 0, 0}, "t0 acquire m0; t0 acquire m4; t0 release m0; t0 release m4", api.End{Done: true}},
		{"lock m2; unlock m2; lock m2", []int{0, 0, 0}, "t0 acquire m2; t0 release m2; t0 acquire m2", api.End{Done: true}},
		// While a thread has the lock, no thread gets it, not even the same one.
		{"fork t1; lock m1; unlock m1 | lock m1", []int{0, 0, 1, 1}, "t0 fork t1; t0 acquire m1", api.End{}},
		{"fork t1; lock m1; unlock m1 | lock m1", []int{0, 0, 1, 0, 1}, "t0 fork t1; t0 acquire m1; t0 release m1; t1 acquire m1", api.End{Done: true}},
		{"fork t1; lock m1; unlock m1 | lock m1", []int{0, 1, 0, 0}, "t0 fork t1; t1 acquire m1", api.End{Stuck: true}},
		{"fork t1; lock m1 | lock m2; lock m0", []int{0, 1, 0, 1}, "t0 fork t1; t1 acquire m2; t0 acquire m1; t1 acquire m0", api.End{Done: true}},
		{"lock m0; lock m0; add 1", []int{0, 0, 0}, "t0 acquire m0", api.End{Stuck: true}},
		{"fork t1; lock m3; lock m3 | add 2; unlock m3; add 2", []int{0, 0, 0, 1, 0, 1}, "t0 fork t1; t0 acquire m3", api.End{Has: [6]int{0, 2}}},
		{"fork t1; lock m3; lock m3 | add 2; unlock m3; add 2", []int{0, 0, 0, 1, 0, 1, 1}, "t0 fork t1; t0 acquire m3", api.End{Has: [6]int{0, 4}, Stuck: true}},
		// OUnlock of a lock that is free or that another thread has: executed, but there is no event.
		{"unlock m0; add 1", []int{0}, "", api.End{}},
		{"unlock m0; add 1", []int{0, 0}, "", api.End{Has: [6]int{1}, Done: true}},
		{"lock m0; unlock m0; unlock m0; unlock m1", []int{0, 0, 0, 0}, "t0 acquire m0; t0 release m0", api.End{Done: true}},
		{"fork t1; lock m0; add 1 | unlock m0; lock m0", []int{0, 0, 1, 1, 0}, "t0 fork t1; t0 acquire m0", api.End{Has: [6]int{1}, Stuck: true}},
		{"fork t1; unlock m0; lock m0 | lock m0; add 1; unlock m0", []int{0, 1, 0, 0, 1, 1, 0},
			"t0 fork t1; t1 acquire m0; t1 release m0; t0 acquire m0", api.End{Has: [6]int{0, 1}, Done: true}},
		// A thread that is over keeps its locks, also after a Join.
		{"fork t1; join t1; lock m0 | lock m0", []int{0, 1, 0, 0}, "t0 fork t1; t1 acquire m0; t0 join t1", api.End{Stuck: true}},
		{"fork t1; join t1; unlock m0; lock m1 | lock m0", []int{0, 1, 0, 0, 0}, "t0 fork t1; t1 acquire m0; t0 join t1; t0 acquire m1", api.End{Done: true}},
		// Each waits for the lock of the other one.
		{"fork t1; lock m0; lock m1 | lock m1; lock m0", []int{0, 0, 1, 0, 1}, "t0 fork t1; t0 acquire m0; t1 acquire m1", api.End{Stuck: true}},
		{"fork t1; lock m0; lock m1 | lock m1; lock m0", []int{0, 0, 0, 1, 1}, "t0 fork t1; t0 acquire m0; t0 acquire m1", api.End{Stuck: true}},
	}
}

// forks returns samples of OFork and OJoin.
func forks() []sample {
	return []sample{
		// Only thread 0 has begun before a Fork.
		{"fork t2; add 1 | add 2 | add 3", []int{1, 2, 0, 1, 2}, "t0 fork t2", api.End{Has: [6]int{0, 0, 3}}},
		{"add 1; fork t1 | add 2", []int{1, 0, 1, 0, 1}, "t0 fork t1", api.End{Has: [6]int{1, 2}, Done: true}},
		{"fork t1 | fork t2 | fork t3 | add 4", []int{3, 2, 1, 0, 3, 2, 1, 3, 2, 3}, "t0 fork t1; t1 fork t2; t2 fork t3", api.End{Has: [6]int{0, 0, 0, 4}, Done: true}},
		// Without effect and without an event: what is no thread of the program, or has begun.
		{"fork t1; fork t5; add 1", []int{0, 0, 0}, "", api.End{Has: [6]int{1}, Done: true}},
		{"fork t2; add 1 |", []int{0, 0, 1, 2}, "", api.End{Has: [6]int{1}, Done: true}},
		{"fork t0; add 1", []int{0, 0}, "", api.End{Has: [6]int{1}, Done: true}},
		{"fork t1; fork t1; fork t1 | add 1", []int{0, 0, 1, 0}, "t0 fork t1", api.End{Has: [6]int{0, 1}, Done: true}},
		{"fork t1 | fork t0; fork t1; add 1", []int{0, 1, 1, 1}, "t0 fork t1", api.End{Has: [6]int{0, 1}, Done: true}},
		{"fork t1; fork t2 | fork t2 | add 1", []int{0, 1, 0, 2}, "t0 fork t1; t1 fork t2", api.End{Has: [6]int{0, 0, 1}, Done: true}},
		{"fork t1; join t1; fork t1 | add 1", []int{0, 1, 0, 0, 1}, "t0 fork t1; t0 join t1", api.End{Has: [6]int{0, 1}, Done: true}},
		// A Join waits until the thread has no operation left.
		{"fork t1; join t1 | add 1; add 1", []int{0, 0, 1, 0}, "t0 fork t1", api.End{Has: [6]int{0, 1}}},
		{"fork t1; join t1 | add 1; add 1", []int{0, 0, 1, 0, 1, 0}, "t0 fork t1; t0 join t1", api.End{Has: [6]int{0, 2}, Done: true}},
		{"fork t1; join t1; add 1 |", []int{0, 0, 0}, "t0 fork t1; t0 join t1", api.End{Has: [6]int{1}, Done: true}},
		{"fork t1; add 1 | join t0; add 2", []int{0, 1, 0, 1, 1}, "t0 fork t1; t1 join t0", api.End{Has: [6]int{1, 2}, Done: true}},
		// A thread may be joined again, by any thread.
		{"fork t1; fork t2; join t1; join t1 | | join t1; join t0", []int{0, 0, 2, 0, 0, 2},
			"t0 fork t1; t0 fork t2; t2 join t1; t0 join t1; t0 join t1; t2 join t0", api.End{Done: true}},
		// A thread that is no thread of the program, or was not forked, is never over.
		{"join t1; add 1", []int{0, 0}, "", api.End{Stuck: true}},
		{"join t5; add 1 | add 1", []int{0, 0, 1}, "", api.End{Stuck: true}},
		{"join t1; add 1 |", []int{0, 1, 0}, "", api.End{Stuck: true}},
		{"fork t2; join t1 | | add 1", []int{0, 0, 2, 0}, "t0 fork t2", api.End{Has: [6]int{0, 0, 1}, Stuck: true}},
		// Nor is the thread itself, or one that waits for it.
		{"join t0", []int{0}, "", api.End{Stuck: true}},
		{"add 1; join t0; add 1", []int{0, 0, 0}, "", api.End{Has: [6]int{1}, Stuck: true}},
		{"fork t1; join t1 | join t0", []int{0, 0, 1, 0}, "t0 fork t1", api.End{Stuck: true}},
		{"fork t1 | join t1", []int{0, 1}, "t0 fork t1", api.End{Stuck: true}},
	}
}

// ends returns samples of Done and Stuck.
func ends() []sample {
	return []sample{
		// At the beginning.
		{"", nil, "", api.End{Done: true}},
		{"add 1", nil, "", api.End{}},
		{"lock m0", nil, "", api.End{}},
		{"join t0", nil, "", api.End{Stuck: true}},
		{"join t1 | add 1", nil, "", api.End{Stuck: true}},
		// Threads that have not begun do not count.
		{" | add 1", nil, "", api.End{Done: true}},
		{"add 1 | add 1 | lock m0", []int{0}, "", api.End{Has: [6]int{1}, Done: true}},
		{"lock m0; lock m0 | unlock m0", []int{0}, "t0 acquire m0", api.End{Stuck: true}},
		{"fork t2 | add 1 | join t0", []int{0, 2}, "t0 fork t2; t2 join t0", api.End{Done: true}},
		// Those that have begun do, also if they have executed nothing.
		{"fork t1 | add 1", []int{0}, "t0 fork t1", api.End{}},
		{"fork t1 | join t1", []int{0}, "t0 fork t1", api.End{Stuck: true}},
		{"fork t1 |", []int{0}, "t0 fork t1", api.End{Done: true}},
		{"fork t5 | | | | | add 3", []int{0, 5}, "t0 fork t5", api.End{Has: [6]int{0, 0, 0, 0, 0, 3}, Done: true}},
		{"fork t5 | | | | | add 3; join t1", []int{0, 5}, "t0 fork t5", api.End{Has: [6]int{0, 0, 0, 0, 0, 3}, Stuck: true}},
		// It is enough that one thread can go on, whichever it is.
		{"fork t1; join t0 | add 1; add 1", []int{0, 1}, "t0 fork t1", api.End{Has: [6]int{0, 1}}},
		{"fork t1; add 1 | join t1", []int{0, 1}, "t0 fork t1", api.End{}},
		{"fork t1; fork t2 | join t1 | add 1", []int{0, 0}, "t0 fork t1; t0 fork t2", api.End{}},
		{"fork t1; fork t2 | join t1 | add 1", []int{0, 0, 2}, "t0 fork t1; t0 fork t2", api.End{Has: [6]int{0, 0, 1}, Stuck: true}},
		// What can end well and can be stuck is neither before.
		{"fork t1; lock m0; lock m1 | lock m1; unlock m1", []int{0, 0}, "t0 fork t1; t0 acquire m0", api.End{}},
		{"fork t1; lock m0 | lock m0", []int{0, 0}, "t0 fork t1; t0 acquire m0", api.End{Stuck: true}},
	}
}

func samples() []sample {
	return slices.Concat(effects(), locks(), forks(), ends())
}

func TestSamples(t *testing.T) {
	for _, s := range samples() {
		s.want(t)
	}
}

// Picks of what is no thread of the program have no effect, wherever they are.
func TestPicksOfNoThread(t *testing.T) {
	for _, s := range samples() {
		n := len(cases.Program(s.program))
		for _, bad := range append(badNumbers, n, n+1, -n) {
			for at := range len(s.picks) + 1 {
				longer := s
				longer.picks = slices.Insert(slices.Clone(s.picks), at, bad, bad)
				longer.want(t)
			}
		}
	}
}

// At its end, a program that is done or stuck has no effect of any picks.
func TestPicksBehindTheEnd(t *testing.T) {
	for _, s := range samples() {
		if !s.end.Done && !s.end.Stuck {
			continue
		}
		for len(s.picks) < 100 {
			s.picks = append(s.picks, len(s.picks)%7)
		}
		s.want(t)
	}
}

// Each variable, signal, lock, thread and register has a place of its own.
func TestEachObject(t *testing.T) {
	for x := range 8 {
		p := [][]api.Op{{{Kind: api.OAdd, N: x + 1}, {Kind: api.OStore, Obj: x}, {Kind: api.OAdd, N: 9}, {Kind: api.OLoad, Obj: x}}}
		wantRun(t, p, []int{0, 0, 0, 0}, api.End{Mem: of[[8]int](map[int]int{x: x + 1}), Has: [6]int{x + 1}, Done: true},
			[]api.Event{{Kind: api.Write, Obj: x}, {Kind: api.Read, Obj: x}})
	}
	for v := range 4 {
		p := [][]api.Op{{{Kind: api.OAdd, N: v + 1}, {Kind: api.OShow, Obj: v}, {Kind: api.OAdd, N: 9}, {Kind: api.OSee, Obj: v}}}
		wantRun(t, p, []int{0, 0, 0, 0}, api.End{Vols: of[[4]int](map[int]int{v: v + 1}), Has: [6]int{v + 1}, Done: true},
			[]api.Event{{Kind: api.Show, Obj: v}, {Kind: api.See, Obj: v}})
	}
	for m := range 5 {
		p := [][]api.Op{{{Kind: api.OLock, Obj: m}, {Kind: api.OUnlock, Obj: (m + 1) % 5}, {Kind: api.OLock, Obj: (m + 2) % 5}, {Kind: api.OUnlock, Obj: m}}}
		wantRun(t, p, []int{0, 0, 0, 0}, api.End{Done: true},
			[]api.Event{{Kind: api.Acquire, Obj: m}, {Kind: api.Acquire, Obj: (m + 2) % 5}, {Kind: api.Release, Obj: m}})
	}
	for thread := 1; thread < 6; thread++ {
		p := make([][]api.Op, 6)
		p[0] = []api.Op{{Kind: api.OFork, Obj: thread}, {Kind: api.OJoin, Obj: thread}}
		p[thread] = []api.Op{{Kind: api.OAdd, N: thread}, {Kind: api.OStore}}
		wantRun(t, p, []int{0, thread, thread, 0}, api.End{Mem: [8]int{thread}, Has: of[[6]int](map[int]int{thread: thread}), Done: true},
			[]api.Event{{Kind: api.Fork, Obj: thread}, {Kind: api.Write, Thread: thread}, {Kind: api.Join, Obj: thread}})
	}
}

// The largest program, whose operations all have events.
func TestTheLargestProgram(t *testing.T) {
	var p [][]api.Op
	var picks []int
	var events []api.Event
	for thread := range 6 {
		ops := []api.Op{{Kind: api.OFork, Obj: thread + 1}}
		event := api.Event{Kind: api.Fork, Thread: thread, Obj: thread + 1}
		if thread == 5 {
			ops[0], event = api.Op{Kind: api.OStore}, api.Event{Kind: api.Write, Thread: thread}
		}
		p = append(p, append(ops, slices.Repeat([]api.Op{{Kind: api.OLoad, Obj: thread}}, 11)...))
		picks = append(picks, slices.Repeat([]int{thread}, 12)...)
		events = append(append(events, event), slices.Repeat([]api.Event{{Kind: api.Read, Thread: thread, Obj: thread}}, 11)...)
	}
	wantRun(t, p, picks, api.End{Done: true}, events)
	wantRun(t, p, picks[:71], api.End{}, events[:71])
	wantRun(t, p, append(picks, make([]int, 28)...), api.End{Done: true}, events)
}

// There may be 100 picks, also if none of them has an effect.
func TestNumbersOfPicks(t *testing.T) {
	for _, pick := range []int{-1, 0, 1, 6, math.MaxInt} {
		for _, n := range []int{100, 101, 102, 1000, 100000} {
			picks := slices.Repeat([]int{pick}, n)
			for _, s := range []string{"", "join t0", "add 1; add 1", "lock m0; lock m0"} {
				if n > 100 {
					wantRunError(t, cases.Program(s), picks, api.ErrLarge)
				}
			}
			if n == 100 {
				wantRun(t, cases.Program("join t0"), picks, api.End{Stuck: true}, nil)
				wantRun(t, cases.Program(""), picks, api.End{Done: true}, nil)
			}
		}
	}
	// The last of 100 picks is executed, too.
	picks := append(slices.Repeat([]int{1}, 99), 0)
	wantRun(t, cases.Program("add 1"), picks, api.End{Has: [6]int{1}, Done: true}, nil)
}

func TestErrorOfTheProgramBeforeThatOfThePicks(t *testing.T) {
	wantRunError(t, cases.Program("load x8"), make([]int, 101), api.ErrArg)
	wantRunError(t, cases.Program("load x7"), make([]int, 101), api.ErrLarge)
}

// Able says which picks P28 gives an effect.
func TestAble(t *testing.T) {
	for _, c := range []struct {
		program     string
		picks, able []int
	}{
		{"", nil, nil},
		{"add 1", nil, []int{0}},
		{"add 1", []int{0}, nil},
		{"add 1", []int{1, -1, 6}, []int{0}},
		{"add 0; add 0", []int{0}, []int{0}},
		{"unlock m0; add 1", nil, []int{0}},
		{"fork t0", nil, []int{0}},
		{"join t0", nil, nil},
		{"fork t5 | add 1 | add 1", nil, []int{0}},
		{"fork t5 | add 1 | add 1", []int{0}, nil},
		{"fork t2; fork t1; add 1 | add 1 | add 1", []int{0}, []int{0, 2}},
		{"fork t2; fork t1; add 1 | add 1 | add 1", []int{0, 0}, []int{0, 1, 2}},
		{"fork t2; fork t1; add 1 | add 1 | add 1", []int{0, 0, 0}, []int{1, 2}},
		{"fork t2; fork t1; add 1 | add 1 | add 1", []int{0, 2, 0, 1}, []int{0}},
		{"fork t1; lock m0; unlock m0 | lock m0", []int{0}, []int{0, 1}},
		{"fork t1; lock m0; unlock m0 | lock m0", []int{0, 0}, []int{0}},
		{"fork t1; lock m0; unlock m0 | lock m0", []int{0, 0, 1, 0}, []int{1}},
		{"fork t1; lock m0; unlock m0 | lock m0", []int{0, 1}, nil},
		{"fork t1; join t1 | add 1", []int{0}, []int{1}},
		{"fork t1; join t1 | add 1", []int{0, 0, 1}, []int{0}},
	} {
		wantAble(t, cases.Program(c.program), c.picks, c.able)
	}
}

// P30

func TestAlone(t *testing.T) {
	for _, c := range []struct{ ops, pairs string }{
		{"", ""},
		{"lock m3", ""},
		{"lock m0; lock m1", "0-1"},
		{"lock m4; lock m2", "4-2"},
		{"lock m3; lock m1; unlock m3; lock m0", "1-0 3-1"},
		{"lock m2; lock m0; lock m1", "0-1 2-0 2-1"},
		{"lock m4; lock m3; lock m2; lock m1; lock m0", "1-0 2-0 2-1 3-0 3-1 3-2 4-0 4-1 4-2 4-3"},
		// What is released does not count any more.
		{"lock m0; unlock m0; lock m1", ""},
		{"lock m0; lock m1; unlock m1; lock m2", "0-1 0-2"},
		{"lock m0; unlock m0; lock m0; lock m1", "0-1"},
		// A lock that the thread has is not acquired again: there is no pair, and one OUnlock is enough.
		{"lock m0; lock m0", ""},
		{"lock m0; lock m1; lock m0", "0-1"},
		{"lock m0; lock m1; lock m1; lock m0; lock m2", "0-1 0-2 1-2"},
		{"lock m0; lock m0; unlock m0; lock m1", ""},
		{"lock m0; lock m1; unlock m0; lock m0", "0-1 1-0"},
		// OUnlock of what it has not.
		{"unlock m0; lock m0; lock m1", "0-1"},
		{"lock m0; unlock m1; unlock m0; unlock m0; lock m1; lock m2", "1-2"},
		// Each pair once.
		{"lock m3; lock m1; unlock m1; lock m1; unlock m3; unlock m1; lock m3; lock m1", "3-1"},
		// Whatever else there is, a thread alone does not wait for it.
		{"lock m0; join t0; lock m1", "0-1"},
		{"join t5; lock m1; join t1; load x3; lock m0", "1-0"},
		{"fork t1; lock m2; add 5; store x4; show v1; see v3; fork t4; lock m1; load x0", "2-1"},
		{"load x1; store x2; fork t3; join t4; see v0; show v1", ""},
	} {
		for _, program := range []string{"%", "% | lock m0", "lock m1; lock m0 | %", "join t2 | lock m0; lock m1 | add 1 | | | %"} {
			wantAloneIn(t, program, c.ops, cases.Pairs(c.pairs))
		}
	}
}

// wantAloneIn wants the pairs of a thread, which the program has in place of the sign.
func wantAloneIn(t *testing.T, program, ops string, want []api.Pair) {
	t.Helper()
	before, after, _ := strings.Cut(program, "%")
	wantAlone(t, cases.Program(before+ops+after), strings.Count(before, "|"), want, api.OK)
}

// Threads that others do not fork, or have no operations, have pairs like all others.
func TestAloneOfEachThread(t *testing.T) {
	p := cases.Program("lock m0; lock m1 | lock m1; lock m2 | | lock m4; lock m3 | lock m1; lock m0 | lock m0; lock m0")
	for thread, pairs := range []string{"0-1", "1-2", "", "4-3", "1-0", ""} {
		wantAlone(t, p, thread, cases.Pairs(pairs), api.OK)
	}
}

func TestWhatIsNoThread(t *testing.T) {
	for n := 1; n <= 6; n++ {
		p := slices.Repeat(cases.Program("lock m0; lock m1"), n)
		for _, thread := range append(badNumbers, -n, n, n+1, 6, 7) {
			wantAlone(t, p, thread, nil, api.ErrArg)
		}
		for thread := range n {
			wantAlone(t, p, thread, cases.Pairs("0-1"), api.OK)
		}
	}
}

// The example of chapter 14

func TestExample(t *testing.T) {
	end, l, errno := prog.Run([][]api.Op{{{Kind: api.OJoin}}}, []int{0})
	if !end.Stuck || end.Done || len(l) != 0 || errno != api.OK {
		t.Errorf("%v, %v, %d", end, l, errno)
	}
}
