package every_test

import (
	"slices"
	"testing"

	"deadheat/api"
	"deadheat/cases"
	"deadheat/every"
	"deadheat/prog"
)

func wantEnds(t *testing.T, p [][]api.Op, want []api.End) {
	t.Helper()
	if got, errno := every.Ends(p); !slices.Equal(got, want) || errno != api.OK {
		t.Errorf("Ends(%v) = %v, %d, want %v", p, got, errno, want)
	}
}

func wantWay(t *testing.T, p [][]api.Op, e api.End, want []int) {
	t.Helper()
	if got, errno := every.Way(p, e); !slices.Equal(got, want) || errno != api.OK {
		t.Errorf("Way(%v, %v) = %v, %d, want %v", p, e, got, errno, want)
	}
}

func wantNoWay(t *testing.T, p [][]api.Op, e api.End, want api.Errno) {
	t.Helper()
	if got, errno := every.Way(p, e); len(got) != 0 || errno != want {
		t.Errorf("Way(%v, %v) = %v, %d, want error %d", p, e, got, errno, want)
	}
}

// wantRaces wants these picks, or no race if there are none: there must be a Fork before
// a race.
func wantRaces(t *testing.T, p [][]api.Op, want []int) {
	t.Helper()
	if is, got, errno := every.Races(p); is != (len(want) > 0) || !slices.Equal(got, want) || errno != api.OK {
		t.Errorf("Races(%v) = %t, %v, %d, want %v", p, is, got, errno, want)
	}
}

// wantError wants an error of a program from all functions, and nothing beside it.
func wantError(t *testing.T, p [][]api.Op, want api.Errno) {
	t.Helper()
	if ends, errno := every.Ends(p); len(ends) != 0 || errno != want {
		t.Errorf("Ends(%v) = %v, %d, want error %d", p, ends, errno, want)
	}
	for _, e := range []api.End{{}, {Done: true}, {Stuck: true}, {Has: [6]int{1}, Done: true}} {
		wantNoWay(t, p, e, want)
	}
	if is, picks, errno := every.Races(p); is || len(picks) != 0 || errno != want {
		t.Errorf("Races(%v) = %t, %v, %d, want error %d", p, is, picks, errno, want)
	}
}

// outcome is an end with the smallest picks that lead to it.
type outcome struct {
	way []int
	end api.End
}

// sample is a program with all its outcomes, in order, and the picks of a race or nil.
type sample struct {
	program  string
	outcomes []outcome
	race     []int
}

func (s sample) want(t *testing.T) {
	t.Helper()
	p := cases.Program(s.program)
	var ends []api.End
	for _, o := range s.outcomes {
		ends = append(ends, o.end)
		wantWay(t, p, o.end, o.way)
		if end, _, errno := prog.Run(p, o.way); end != o.end || errno != api.OK {
			t.Errorf("%s: %v is not what %v comes to, but %v, %d", s.program, o.end, o.way, end, errno)
		}
	}
	wantEnds(t, p, ends)
	wantRaces(t, p, s.race)
}

var (
	done  = api.End{Done: true}
	stuck = api.End{Stuck: true}
)

// lonely returns samples in which there is one order only.
func lonely() []sample {
	return []sample{
		{"", []outcome{{nil, done}}, nil},
		{"add 5", []outcome{{[]int{0}, api.End{Has: [6]int{5}, Done: true}}}, nil},
		{"join t0", []outcome{{nil, stuck}}, nil},
		{"add 1; join t1; add 1 | add 2", []outcome{{[]int{0}, api.End{Has: [6]int{1}, Stuck: true}}}, nil},
		{"lock m0; lock m0; add 1", []outcome{{[]int{0}, stuck}}, nil},
		// Threads that nobody forks do nothing.
		{"| add 1", []outcome{{nil, done}}, nil},
		{"add 1; store x7 | store x7 | add 1; store x7", []outcome{{[]int{0, 0}, api.End{Mem: [8]int{7: 1}, Has: [6]int{1}, Done: true}}}, nil},
		// One thread alone has no races.
		{"store x0; load x0; store x0", []outcome{{[]int{0, 0, 0}, done}}, nil},
		// Picks have an effect also if the operation has none.
		{"unlock m0; fork t0; fork t5; add 0; unlock m4", []outcome{{[]int{0, 0, 0, 0, 0}, done}}, nil},
		{"fork t1; fork t1; join t1; fork t1 | unlock m0", []outcome{{[]int{0, 0, 1, 0, 0}, done}}, nil},
		// The accesses are ordered by Forks and Joins.
		{"add 3; store x0; fork t1; join t1; load x0 | add 2; store x0", []outcome{
			{[]int{0, 0, 0, 1, 1, 0, 0}, api.End{Mem: [8]int{2}, Has: [6]int{2, 2}, Done: true}}}, nil},
		{"fork t5; join t5; load x1 | | | | fork t1 | add 2; store x1", []outcome{
			{[]int{0, 5, 5, 0, 0}, api.End{Mem: [8]int{0, 2}, Has: [6]int{2, 0, 0, 0, 0, 2}, Done: true}}}, nil},
	}
}

// orders returns samples in which the order of execution counts.
func orders() []sample {
	return []sample{
		// What one of two threads adds is lost if both load before one stores.
		{"fork t1; load x0; add 1; store x0 | load x0; add 1; store x0", []outcome{
			{[]int{0, 0, 0, 1, 0, 1, 1}, api.End{Mem: [8]int{1}, Has: [6]int{1, 1}, Done: true}},
			{[]int{0, 0, 0, 0, 1, 1, 1}, api.End{Mem: [8]int{2}, Has: [6]int{1, 2}, Done: true}},
			{[]int{0, 1, 1, 1, 0, 0, 0}, api.End{Mem: [8]int{2}, Has: [6]int{2, 1}, Done: true}},
		}, []int{0, 0, 0, 0, 1}},
		// With a lock there is no race, but the order of the locks counts.
		{"fork t1; lock m0; add 1; store x0; unlock m0 | lock m0; add 2; store x0; unlock m0", []outcome{
			{[]int{0, 1, 1, 1, 1, 0, 0, 0, 0}, api.End{Mem: [8]int{1}, Has: [6]int{1, 2}, Done: true}},
			{[]int{0, 0, 0, 0, 0, 1, 1, 1, 1}, api.End{Mem: [8]int{2}, Has: [6]int{1, 2}, Done: true}},
		}, nil},
		// So does that of the signals.
		{"fork t1; add 1; show v3 | add 2; show v3", []outcome{
			{[]int{0, 0, 1, 1, 0}, api.End{Vols: [4]int{3: 1}, Has: [6]int{1, 2}, Done: true}},
			{[]int{0, 0, 0, 1, 1}, api.End{Vols: [4]int{3: 2}, Has: [6]int{1, 2}, Done: true}},
		}, nil},
		// Only the order of a lock's events decides whether a thread is stuck.
		{"fork t1; lock m0; unlock m0 | lock m0", []outcome{{[]int{0, 1}, stuck}, {[]int{0, 0, 0, 1}, done}}, nil},
		{"fork t1; lock m0; lock m1; unlock m0; unlock m1 | lock m1; lock m0; unlock m0; unlock m1", []outcome{
			{[]int{0, 0, 1}, stuck},
			{[]int{0, 0, 0, 0, 0, 1, 1, 1, 1}, done},
		}, nil},
		// OUnlock has an effect only if the thread has the lock.
		{"fork t1; unlock m0; lock m0 | lock m0; unlock m0", []outcome{{[]int{0, 0, 0}, stuck}, {[]int{0, 0, 1, 1, 0}, done}}, nil},
		// Who forks decides who can join, but not how it ends.
		{"fork t1; fork t2 | fork t2; join t2 | add 1", []outcome{
			{[]int{0, 0, 1, 2, 1}, api.End{Has: [6]int{0, 0, 1}, Done: true}}}, nil},
		// Three threads that add to a variable.
		{"fork t1; fork t2 | load x1; add 1; store x1 | load x1; add 2; store x1", []outcome{
			{[]int{0, 0, 1, 1, 2, 2, 2, 1}, api.End{Mem: [8]int{0, 1}, Has: [6]int{0, 1, 2}, Done: true}},
			{[]int{0, 0, 1, 1, 2, 1, 2, 2}, api.End{Mem: [8]int{0, 2}, Has: [6]int{0, 1, 2}, Done: true}},
			{[]int{0, 0, 1, 1, 1, 2, 2, 2}, api.End{Mem: [8]int{0, 3}, Has: [6]int{0, 1, 3}, Done: true}},
			{[]int{0, 0, 2, 2, 2, 1, 1, 1}, api.End{Mem: [8]int{0, 3}, Has: [6]int{0, 3, 2}, Done: true}},
		}, []int{0, 0, 1, 1, 1, 2}},
	}
}

// sorted returns samples whose ends are in an order that one part of them decides.
func sorted() []sample {
	return []sample{
		// Mem, as numbers: the negative one first.
		{"fork t1; add -1; store x0 | store x0", []outcome{
			{[]int{0, 0, 1, 0}, api.End{Mem: [8]int{-1}, Has: [6]int{-1}, Done: true}},
			{[]int{0, 0, 0, 1}, api.End{Has: [6]int{-1}, Done: true}},
		}, []int{0, 0, 0, 1}},
		{"fork t1; add 9; store x7 | add 10; store x7", []outcome{
			{[]int{0, 0, 1, 1, 0}, api.End{Mem: [8]int{7: 9}, Has: [6]int{9, 10}, Done: true}},
			{[]int{0, 0, 0, 1, 1}, api.End{Mem: [8]int{7: 10}, Has: [6]int{9, 10}, Done: true}},
		}, []int{0, 0, 0, 1, 1}},
		// Variable 0 before variable 1, and Mem before Vols.
		{"fork t1; add 1; store x1; add 1; store x0 | add 2; store x1; add -1; store x0", []outcome{
			{[]int{0, 0, 1, 1, 0, 0, 0, 1, 1}, api.End{Mem: [8]int{1, 1}, Has: [6]int{2, 1}, Done: true}},
			{[]int{0, 0, 0, 0, 0, 1, 1, 1, 1}, api.End{Mem: [8]int{1, 2}, Has: [6]int{2, 1}, Done: true}},
			{[]int{0, 0, 1, 1, 0, 0, 1, 1, 0}, api.End{Mem: [8]int{2, 1}, Has: [6]int{2, 1}, Done: true}},
			{[]int{0, 0, 0, 0, 1, 1, 1, 1, 0}, api.End{Mem: [8]int{2, 2}, Has: [6]int{2, 1}, Done: true}},
		}, []int{0, 0, 0, 1, 1}},
		{"fork t1; add 1; show v0; add 1; store x0 | add 2; show v0; add -1; store x0", []outcome{
			{[]int{0, 0, 1, 1, 0, 0, 0, 1, 1}, api.End{Mem: [8]int{1}, Vols: [4]int{1}, Has: [6]int{2, 1}, Done: true}},
			{[]int{0, 0, 0, 0, 0, 1, 1, 1, 1}, api.End{Mem: [8]int{1}, Vols: [4]int{2}, Has: [6]int{2, 1}, Done: true}},
			{[]int{0, 0, 1, 1, 0, 0, 1, 1, 0}, api.End{Mem: [8]int{2}, Vols: [4]int{1}, Has: [6]int{2, 1}, Done: true}},
			{[]int{0, 0, 0, 0, 1, 1, 1, 1, 0}, api.End{Mem: [8]int{2}, Vols: [4]int{2}, Has: [6]int{2, 1}, Done: true}},
		}, []int{0, 0, 0, 0, 0, 1, 1, 1, 1}},
		// Vols before Has.
		{"fork t1; add 1; show v0; load x0 | add 2; store x0; show v0", []outcome{
			{[]int{0, 0, 1, 1, 1, 0, 0}, api.End{Mem: [8]int{2}, Vols: [4]int{1}, Has: [6]int{2, 2}, Done: true}},
			{[]int{0, 0, 0, 0, 1, 1, 1}, api.End{Mem: [8]int{2}, Vols: [4]int{2}, Has: [6]int{0, 2}, Done: true}},
			{[]int{0, 0, 0, 1, 1, 0, 1}, api.End{Mem: [8]int{2}, Vols: [4]int{2}, Has: [6]int{2, 2}, Done: true}},
		}, []int{0, 0, 0, 0, 1, 1}},
		// Has up to thread 5.
		{"fork t1; fork t5 | add 1; store x0 | | | | load x0", []outcome{
			{[]int{0, 0, 1, 5, 1}, api.End{Mem: [8]int{1}, Has: [6]int{0, 1}, Done: true}},
			{[]int{0, 0, 1, 1, 5}, api.End{Mem: [8]int{1}, Has: [6]int{1: 1, 5: 1}, Done: true}},
		}, []int{0, 0, 1, 1, 5}},
		// Has before Done.
		{"fork t1; lock m0; see v0; add -5; unlock m0 | lock m0; add 1", []outcome{
			{[]int{0, 0, 0, 0, 0, 1, 1}, api.End{Has: [6]int{-5, 1}, Done: true}},
			{[]int{0, 1, 1}, api.End{Has: [6]int{0, 1}, Stuck: true}},
		}, nil},
	}
}

// choices returns samples in which the smallest picks are not the shortest, or the other
// way round.
func choices() []sample {
	return []sample{
		// Thread 0 is stuck behind three picks or two.
		{"fork t1; lock m0; add 0; lock m0 | lock m0", []outcome{{[]int{0, 0, 0}, stuck}}, nil},
		{"fork t1; lock m0; lock m0 | lock m0; add 0; add 0", []outcome{{[]int{0, 0}, stuck}}, nil},
		// With the smallest picks, threads 1 and 2 race only when thread 0 is over.
		{"fork t1; fork t2; add 1; add 1; store x0 | store x1 | store x1", []outcome{
			{[]int{0, 0, 0, 0, 0, 1, 2}, api.End{Mem: [8]int{2}, Has: [6]int{2}, Done: true}}}, []int{0, 0, 1, 2}},
		// That thread 5 adds is no event, but it is another pick than that of thread 0.
		{"fork t1; fork t5; add 1 | store x0 | | | | add 1; load x0", []outcome{
			{[]int{0, 0, 0, 1, 5, 5}, api.End{Has: [6]int{1}, Done: true}}}, []int{0, 0, 1, 5, 5}},
		// Both races take six picks.
		{"fork t1; add 1; add -1; store x0; store x1 | store x1; store x0", []outcome{
			{[]int{0, 0, 0, 0, 0, 1, 1}, done}}, []int{0, 0, 0, 0, 0, 1}},
		{"fork t1; fork t2; load x0 | load x0 | store x0", []outcome{
			{[]int{0, 0, 0, 1, 2}, done}}, []int{0, 0, 0, 2}},
		{"fork t2; fork t1 | store x0 | store x0", []outcome{{[]int{0, 0, 1, 2}, done}}, []int{0, 0, 1, 2}},
	}
}

// races returns samples with races that not all executions have.
func races() []sample {
	return []sample{
		// Thread 1 must have released the lock before thread 0 acquires it.
		{"fork t1; lock m0; store x0; unlock m0 | lock m0; unlock m0; store x0", []outcome{
			{[]int{0, 0, 0, 0, 1, 1, 1}, done}}, []int{0, 1, 1, 0, 0, 1}},
		// Thread 1 must look at the signal before it is shown.
		{"fork t1; store x0; show v0 | see v0; store x0", []outcome{{[]int{0, 0, 0, 1, 1}, done}}, []int{0, 0, 1, 1}},
		{"fork t1; store x0; show v0 | see v1; store x0", []outcome{{[]int{0, 0, 0, 1, 1}, done}}, []int{0, 0, 1, 1}},
		// Who forks thread 2 decides whether it comes behind the Store of thread 1.
		{"fork t1; fork t2 | store x3; fork t2 | load x3", []outcome{{[]int{0, 0, 1, 1, 2}, done}}, []int{0, 0, 1, 2}},
		{"fork t1 | store x3; fork t2 | load x3", []outcome{{[]int{0, 1, 1, 2}, done}}, nil},
		// All executions are stuck, and have a race.
		{"fork t1; store x0; join t0 | store x0; join t1", []outcome{{[]int{0, 0, 1}, stuck}}, []int{0, 0, 1}},
		// A thread that waits forever does not get to its Store.
		{"fork t1; store x0 | join t1; store x0", []outcome{{[]int{0, 0}, stuck}}, nil},
		{"fork t1; store x0 | join t0; store x0", []outcome{{[]int{0, 0, 1, 1}, done}}, nil},
		// Two Loads do not race, nor do two variables or signals.
		{"fork t1; load x0; store x1; show v0 | load x0; store x2; show v0", []outcome{
			{[]int{0, 0, 0, 0, 1, 1, 1}, done}}, nil},
		// The lock is another one.
		{"fork t1; lock m0; store x0; unlock m0 | lock m1; load x0; unlock m1", []outcome{
			{[]int{0, 0, 0, 0, 1, 1, 1}, done}}, []int{0, 0, 0, 1, 1}},
	}
}

func samples() []sample {
	return slices.Concat(lonely(), orders(), sorted(), choices(), races())
}

func TestSamples(t *testing.T) {
	for _, s := range samples() {
		s.want(t)
	}
}

// P31: what is not one of the ends

func TestWhatIsNoEnd(t *testing.T) {
	for _, s := range samples() {
		p := cases.Program(s.program)
		ends, _ := every.Ends(p)
		wantNoWay(t, p, api.End{}, api.ErrNone)
		for _, e := range ends {
			for _, other := range neighbours(e) {
				if !slices.Contains(ends, other) {
					wantNoWay(t, p, other, api.ErrNone)
				}
			}
		}
	}
}

// neighbours returns ends that differ from e in one number, or in Done and Stuck.
func neighbours(e api.End) []api.End {
	var l []api.End
	for x := range e.Mem {
		other := e
		other.Mem[x]++
		l = append(l, other)
	}
	for v := range e.Vols {
		other := e
		other.Vols[v]--
		l = append(l, other)
	}
	for thread := range e.Has {
		other := e
		other.Has[thread] += 1 << 32
		l = append(l, other)
	}
	for _, both := range [][2]bool{{false, false}, {false, true}, {true, false}, {true, true}} {
		other := e
		other.Done, other.Stuck = both[0], both[1]
		l = append(l, other)
	}
	return l
}

// What there is on the way is no end.
func TestBeginningsAreNoEnds(t *testing.T) {
	p := cases.Program("fork t1; add 1; store x0 | add 2; store x0")
	for _, picks := range [][]int{nil, {0}, {0, 0}, {0, 0, 0}, {0, 1}, {0, 0, 0, 1}, {0, 1, 1, 0}} {
		end, _, _ := prog.Run(p, picks)
		wantNoWay(t, p, end, api.ErrNone)
	}
}

// P31: the errors of programs

// programs returns programs with so many operations in total, in one thread or several.
func programs(total int) [][][]api.Op {
	op := api.Op{Kind: api.OAdd, N: 1}
	var all [][][]api.Op
	for threads := 1; threads <= 6; threads++ {
		for extra := range threads {
			p := make([][]api.Op, threads)
			for n := range total {
				at := (n*n + extra) % threads
				p[at] = append(p[at], op)
			}
			all = append(all, p)
		}
	}
	return all
}

func TestNumbersOfOperations(t *testing.T) {
	for total := range 20 {
		for _, p := range programs(total) {
			if total > 10 {
				wantError(t, p, api.ErrLarge)
				continue
			}
			n := len(p[0])
			end := api.End{Has: [6]int{n}, Done: true}
			wantEnds(t, p, []api.End{end})
			wantWay(t, p, end, make([]int, n))
			wantRaces(t, p, nil)
		}
	}
}

// The operations of threads that nobody forks count, too.
func TestElevenOperations(t *testing.T) {
	for _, s := range []string{
		"| add 1; add 1; add 1; add 1; add 1; add 1; add 1; add 1; add 1; add 1; add 1",
		"add 1; add 1; add 1; add 1; add 1; add 1; add 1; add 1; add 1; add 1; add 1",
		"join t0; add 1; add 1; add 1; add 1; add 1 | load x0; load x0; load x0; load x0; load x0",
		"add 1; add 1 | add 1; add 1 | add 1; add 1 | add 1; add 1 | add 1; add 1 | add 1",
		"fork t1; store x0; store x0; store x0; store x0; store x0 | store x0; store x0; store x0; store x0; store x0",
	} {
		wantError(t, cases.Program(s), api.ErrLarge)
	}
}

func TestErrorsOfCheck(t *testing.T) {
	wantError(t, nil, api.ErrLarge)
	wantError(t, [][]api.Op{}, api.ErrLarge)
	wantError(t, make([][]api.Op, 7), api.ErrLarge)
	wantError(t, [][]api.Op{make([]api.Op, 13)}, api.ErrLarge)
	wantError(t, [][]api.Op{{{}}}, api.ErrArg)
	wantError(t, cases.Program("load x8"), api.ErrArg)
	wantError(t, cases.Program("add 1 | add 1; lock m5"), api.ErrArg)
	wantError(t, cases.Program("add 1001"), api.ErrArg)
	wantError(t, [][]api.Op{{{Kind: api.OStore, N: 1}}}, api.ErrArg)
}

// An operation that is wrong is the error also if there are too many.
func TestErrorOfCheckBeforeTheTotal(t *testing.T) {
	p := slices.Repeat(cases.Program("add 1; add 1; add 1"), 6)
	wantError(t, p, api.ErrLarge)
	p[5] = cases.Program("add 1; add 1; join t6")[0]
	wantError(t, p, api.ErrArg)
	wantError(t, [][]api.Op{make([]api.Op, 11)}, api.ErrArg)
	wantError(t, [][]api.Op{make([]api.Op, 12)}, api.ErrArg)
	wantError(t, [][]api.Op{make([]api.Op, 12), make([]api.Op, 13)}, api.ErrLarge)
}

// The example of chapter 15

func TestExample(t *testing.T) {
	p := cases.Program("fork t1; load x0; add 1; store x0 | load x0; add 1; store x0")
	if ends, errno := every.Ends(p); len(ends) < 2 || errno != api.OK {
		t.Errorf("%v, %d", ends, errno)
	}
}
