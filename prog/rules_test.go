package prog_test

import (
	"math"
	"slices"
	"testing"

	"deadheat/api"
	"deadheat/cases"
	"deadheat/prog"
)

// P1: there is no panic and no endless loop, whatever the numbers of an operation, of
// the picks and of a thread are.
func TestOddPrograms(t *testing.T) {
	numbers := []int{math.MinInt, -1001, -1000, -1, 0, 1, 2, 3, 4, 5, 6, 7, 8, 9, 10, 12, 1000, 1001, 1 << 32, math.MaxInt}
	valid := 0
	for _, kind := range numbers {
		for _, obj := range numbers {
			for _, n := range numbers {
				p := cases.Program("fork t1; lock m0 | add 7")
				p[1] = append(p[1], api.Op{Kind: kind, Obj: obj, N: n})
				if prog.Check(p) != api.OK {
					wantError(t, p, api.ErrArg)
					continue
				}
				valid++
				picks := append([]int{0, 1, 0, 1}, numbers...)
				h := history{program: p}
				for _, pick := range picks {
					h = h.with(pick)
				}
				wantRun(t, p, picks, h.end(), h.events())
			}
		}
	}
	// All objects in range are among the numbers; for OAdd, 15 of the numbers are in range.
	if want := 2*8 + 15 + 2*5 + 2*6 + 2*4; valid != want {
		t.Errorf("%d valid operations, want %d", valid, want)
	}
}

// P2: the arguments

func TestArgumentsAreNotModified(t *testing.T) {
	for seed := range 100 {
		for _, sizes := range manySizes() {
			picks := mixedPicks(seed, len(sizes))
			wantPicks := slices.Clone(picks)
			isChanged := cases.IsProgramChanged(cases.Mixed(seed, sizes...), func(p [][]api.Op) {
				prog.Check(p)
				for n := range len(picks) + 1 {
					prog.Run(p, picks[:n])
					prog.Able(p, picks[:n])
				}
				for thread := range p {
					prog.Alone(p, thread)
				}
			})
			if isChanged || !slices.Equal(picks, wantPicks) {
				t.Errorf("modified: program %d of %v, or its picks %v", seed, sizes, picks)
			}
		}
	}
}

// A program that shares the memory of its threads is like one that does not.
func TestThreadsThatShareMemory(t *testing.T) {
	ops := cases.Program("fork t1; lock m0; add 1; store x0; unlock m0; lock m1; lock m0")[0]
	p := [][]api.Op{ops, ops[1:], ops[:3], ops}
	q := cases.Copied(p)
	for seed := range 20 {
		picks := mixedPicks(seed, 2)
		end, events, _ := prog.Run(q, picks)
		wantRun(t, p, picks, end, events)
	}
	for thread := range p {
		want, _ := prog.Alone(q, thread)
		wantAlone(t, p, thread, want, api.OK)
	}
}

// P2: the results

func TestResultsAreNewlyAllocated(t *testing.T) {
	for _, s := range samples() {
		p := cases.Program(s.program)
		if cases.SharesMemory(func() []api.Event { _, l, _ := prog.Run(p, s.picks); return l }) {
			t.Errorf("%s: events share memory", s.program)
		}
		if cases.SharesMemory(func() []int { able, _ := prog.Able(p, s.picks); return able }) {
			t.Errorf("%s: able threads share memory", s.program)
		}
		for thread := range p {
			if cases.SharesMemory(func() []api.Pair { pairs, _ := prog.Alone(p, thread); return pairs }) {
				t.Errorf("%s: pairs of thread %d share memory", s.program, thread)
			}
		}
		if !cases.AreEqual(p, cases.Program(s.program)) {
			t.Errorf("%s: changed with a result", s.program)
		}
	}
}

// A result is that of the arguments as they were at the call.
func TestArgumentsAreNotRetained(t *testing.T) {
	p := cases.Program("lock m0; lock m1; add 2; store x1")
	picks := []int{0, 0, 0, 0}
	end, l, _ := prog.Run(p, picks)
	pairs, _ := prog.Alone(p, 0)
	clear(p[0])
	clear(picks)
	if end != (api.End{Mem: [8]int{0, 2}, Has: [6]int{2}, Done: true}) ||
		!slices.Equal(l, cases.Events("t0 acquire m0; t0 acquire m1; t0 write x1")) || !slices.Equal(pairs, cases.Pairs("0-1")) {
		t.Errorf("%v, %v, %v", end, l, pairs)
	}
}

func TestResultsDependOnlyOnArguments(t *testing.T) {
	large := make([][]api.Op, 7)
	cases.Together(func() {
		for _, s := range samples() {
			s.want(t)
		}
		wantAlone(t, cases.Program("lock m0; lock m1"), 0, cases.Pairs("0-1"), api.OK)
		wantAlone(t, cases.Program("lock m1; lock m0"), 0, cases.Pairs("1-0"), api.OK)
		wantError(t, cases.Program("load x8"), api.ErrArg)
		wantError(t, large, api.ErrLarge)
	})
}
