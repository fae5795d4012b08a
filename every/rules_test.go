package every_test

import (
	"math"
	"slices"
	"testing"

	"deadheat/api"
	"deadheat/cases"
	"deadheat/every"
	"deadheat/prog"
)

// P1: there is no panic and no endless loop, whatever the numbers of an operation are.
func TestOddPrograms(t *testing.T) {
	numbers := []int{math.MinInt, -1001, -1000, -1, 0, 1, 2, 3, 4, 5, 6, 7, 8, 9, 10, 1000, 1001, 1 << 32, math.MaxInt}
	var found counts
	for _, kind := range numbers {
		for _, obj := range numbers {
			for _, n := range numbers {
				p := cases.Program("fork t1; load x0; lock m0 | add 7; store x0")
				p[1] = append(p[1], api.Op{Kind: kind, Obj: obj, N: n})
				if errno := prog.Check(p); errno != api.OK {
					wantError(t, p, errno)
				} else {
					wantSearched(t, &found, p)
				}
			}
		}
	}
	// All objects in range are among the numbers; for OAdd, 14 of the numbers are in range.
	if want := 2*8 + 14 + 2*5 + 2*6 + 2*4; found.racing != want || found.several != want {
		t.Errorf("%+v, want %d valid programs", found, want)
	}
}

// P1: whatever an end has, there is no way to it if it is not one of the ends.
func TestOddEnds(t *testing.T) {
	p := cases.Program("fork t1; lock m0; store x7; unlock m0 | add 1; show v3; lock m0")
	ends, _ := every.Ends(p)
	for _, n := range []int{math.MinInt, -1, 0, 1, 2, math.MaxInt} {
		for at := range 8 {
			for _, isDone := range []bool{false, true} {
				e := api.End{Has: [6]int{0, 1}, Vols: [4]int{3: 1}, Done: isDone, Stuck: !isDone}
				e.Mem[at], e.Vols[at%4], e.Has[at%6] = n, n, n
				if !slices.Contains(ends, e) {
					wantNoWay(t, p, e, api.ErrNone)
				}
			}
		}
	}
}

// The programs with the most executions: all threads begin, and all orders differ.
func TestTheLargestPrograms(t *testing.T) {
	for _, s := range []string{
		"fork t1; fork t2; fork t3; store x0 | store x0; store x0 | store x0; store x0 | store x0; store x0",
		"fork t1; fork t2; fork t3; show v0 | show v0; show v0 | show v0; show v0 | show v0; show v0",
		"fork t1; fork t2; fork t3; fork t4; fork t5 | add 1; store x0 | store x0 | store x0 | store x0",
	} {
		wantSearched(t, new(counts), cases.Program(s))
	}
}

// P2: the arguments

func TestArgumentsAreNotModified(t *testing.T) {
	for _, s := range samples() {
		if cases.IsProgramChanged(cases.Program(s.program), func(p [][]api.Op) {
			every.Races(p)
			ends, _ := every.Ends(p)
			for _, e := range append(ends, api.End{}) {
				every.Way(p, e)
			}
		}) {
			t.Errorf("%s: modified", s.program)
		}
	}
}

// A program that shares the memory of its threads is like one that does not.
func TestThreadsThatShareMemory(t *testing.T) {
	ops := cases.Program("fork t1; add 1; store x0; store x1")[0]
	p := [][]api.Op{ops, ops[1:], ops[:3]}
	q := cases.Copied(p)
	want, _ := every.Ends(q)
	wantEnds(t, p, want)
	for _, e := range want {
		way, _ := every.Way(q, e)
		wantWay(t, p, e, way)
	}
	_, picks, _ := every.Races(q)
	wantRaces(t, p, picks)
}

// P2: the results

func TestResultsAreNewlyAllocated(t *testing.T) {
	for _, s := range samples() {
		p := cases.Program(s.program)
		if cases.SharesMemory(func() []api.End { ends, _ := every.Ends(p); return ends }) {
			t.Errorf("%s: ends share memory", s.program)
		}
		for _, o := range s.outcomes {
			if cases.SharesMemory(func() []int { way, _ := every.Way(p, o.end); return way }) {
				t.Errorf("%s: ways to %v share memory", s.program, o.end)
			}
		}
		if cases.SharesMemory(func() []int { _, picks, _ := every.Races(p); return picks }) {
			t.Errorf("%s: picks with a race share memory", s.program)
		}
		if !cases.AreEqual(p, cases.Program(s.program)) {
			t.Errorf("%s: changed with a result", s.program)
		}
	}
}

// A result is that of the program as it was at the call.
func TestArgumentsAreNotRetained(t *testing.T) {
	p := cases.Program("fork t1; add 1; store x0 | store x0")
	ends, _ := every.Ends(p)
	way, _ := every.Way(p, ends[1])
	_, picks, _ := every.Races(p)
	clear(p[0])
	clear(p)
	want := []api.End{{Has: [6]int{1}, Done: true}, {Mem: [8]int{1}, Has: [6]int{1}, Done: true}}
	if !slices.Equal(ends, want) || !slices.Equal(way, []int{0, 0, 1, 0}) || !slices.Equal(picks, []int{0, 0, 0, 1}) {
		t.Errorf("%v, %v, %v", ends, way, picks)
	}
}

func TestResultsDependOnlyOnArguments(t *testing.T) {
	large := make([][]api.Op, 7)
	cases.Together(func() {
		for _, s := range samples() {
			s.want(t)
		}
		wantError(t, cases.Program("load x8"), api.ErrArg)
		wantError(t, large, api.ErrLarge)
		wantNoWay(t, cases.Program("add 1"), done, api.ErrNone)
	})
}
