package cases_test

import (
	"iter"
	"slices"
	"sync/atomic"
	"testing"

	"deadheat/api"
	"deadheat/cases"
	"deadheat/trace"
)

// A test that ranges over no traces, or over wrong ones, would pass without a word.

func TestShort(t *testing.T) {
	lengths := lengthsOf(t, cases.Short())
	for n := 1; n <= 6; n++ {
		if lengths[n] == 0 {
			t.Errorf("no traces of %d events: %v", n, lengths)
		}
	}
}

func TestAccesses(t *testing.T) {
	lengths := lengthsOf(t, cases.Accesses())
	for n := 2; n <= 8; n++ {
		if lengths[n] == 0 {
			t.Errorf("no traces of %d events: %v", n, lengths)
		}
	}
}

func TestLocks(t *testing.T) {
	lengths := lengthsOf(t, cases.Locks())
	// After one Acquire, the second event is its Release or one of four Acquires.
	if lengths[2] != 6 || lengths[3] != 6*5 || lengths[7] == 0 || len(lengths) != 6 {
		t.Errorf("lengths %v", lengths)
	}
}

// lengthsOf returns how many of the lists have each length. All must be traces.
func lengthsOf(t *testing.T, lists iter.Seq[[]api.Event]) map[int]int {
	t.Helper()
	lengths := map[int]int{}
	for l := range lists {
		lengths[len(l)]++
		if at, errno := trace.Check(l); errno != api.OK {
			t.Errorf("Check(%v) = %d, %d", l, at, errno)
		}
	}
	return lengths
}

func TestBreak(t *testing.T) {
	for _, lists := range []iter.Seq[[]api.Event]{cases.Short(), cases.Accesses(), cases.Locks(), cases.Odd()} {
		for _, limit := range []int{1, 10, 100, 1000, 4914} {
			var n int
			for range lists {
				if n++; n == limit {
					break
				}
			}
			if n != limit {
				t.Errorf("%d traces, want %d", n, limit)
			}
		}
	}
}

func TestLong(t *testing.T) {
	kinds := map[int]bool{}
	for seed := range 60 {
		for _, n := range []int{4, 40, 80} {
			l := cases.Long(n, seed)
			if at, errno := trace.Check(l); len(l) != n || errno != api.OK {
				t.Errorf("Long(%d, %d) = %v, Check %d, %d", n, seed, l, at, errno)
			}
			for _, e := range l {
				kinds[e.Kind] = true
			}
		}
	}
	if len(kinds) != 8 || slices.Equal(cases.Long(80, 1), cases.Long(80, 2)) {
		t.Errorf("kinds %v", kinds)
	}
}

func TestInvalid(t *testing.T) {
	lists := cases.Invalid()
	for _, want := range []api.Errno{api.ErrArg, api.ErrLarge, api.ErrNone, api.ErrTwice, api.ErrHeld, api.ErrFree, api.ErrState} {
		if at, errno := trace.Check(lists[want]); errno != want {
			t.Errorf("Check(%v) = %d, %d, want %d", lists[want], at, errno, want)
		}
	}
}

func TestOdd(t *testing.T) {
	found := map[api.Errno]int{}
	for l := range cases.Odd() {
		_, errno := trace.Check(l)
		found[errno]++
	}
	for _, errno := range []api.Errno{api.OK, api.ErrArg, api.ErrLarge, api.ErrNone, api.ErrTwice, api.ErrFree, api.ErrState} {
		if found[errno] == 0 {
			t.Errorf("no list with error %d: %v", errno, found)
		}
	}
}

func TestIsChanged(t *testing.T) {
	if cases.IsChanged(func([]api.Event) {}) {
		t.Error("changed by nothing")
	}
	for name, change := range map[string]func(l []api.Event){
		"first":  func(l []api.Event) { clear(l[:min(1, len(l))]) },
		"last":   func(l []api.Event) { clear(l[max(0, len(l)-1):]) },
		"behind": func(l []api.Event) { _ = append(l, api.Event{}) },
	} {
		if !cases.IsChanged(change) {
			t.Errorf("%s: not noticed", name)
		}
	}
}

func TestIsProgramChanged(t *testing.T) {
	p := cases.Program("load x0; add 3 | | fork t1; lock m2")
	if cases.IsProgramChanged(p, func(q [][]api.Op) {
		if !cases.AreEqual(p, q) {
			t.Errorf("called with %v, not %v", q, p)
		}
	}) {
		t.Error("changed by nothing")
	}
	for name, change := range map[string]func(q [][]api.Op){
		"first operation":         func(q [][]api.Op) { q[0][0].N++ },
		"last operation":          func(q [][]api.Op) { q[2][1].Obj++ },
		"behind the operations":   func(q [][]api.Op) { _ = append(q[0], api.Op{}) },
		"behind those of another": func(q [][]api.Op) { _ = append(q[2], api.Op{}) },
		"behind no operations":    func(q [][]api.Op) { _ = append(q[1], api.Op{}) },
		"first thread":            func(q [][]api.Op) { q[0] = q[0][:1] },
		"last thread":             func(q [][]api.Op) { q[2] = nil },
		"behind the threads":      func(q [][]api.Op) { _ = append(q, nil) },
		"another thread behind":   func(q [][]api.Op) { q[:4][3][0].N++ },
	} {
		if !cases.IsProgramChanged(p, change) {
			t.Errorf("%s: not noticed", name)
		}
	}
	if !cases.AreEqual(p, cases.Program("load x0; add 3 | | fork t1; lock m2")) {
		t.Errorf("changed itself, to %v", p)
	}
}

func TestSharesMemory(t *testing.T) {
	kept := []int{1, 2, 3}
	for name, ask := range map[string]func() []int{
		"all":    func() []int { return kept },
		"part":   func() []int { return kept[:1] },
		"unused": func() []int { return append(kept[:1], 2) },
	} {
		if copy(kept, []int{1, 2, 3}); !cases.SharesMemory(ask) {
			t.Errorf("%s: not noticed", name)
		}
	}
	for _, ask := range []func() []int{
		func() []int { return []int{1, 2} },
		func() []int { return nil },
	} {
		if cases.SharesMemory(ask) {
			t.Errorf("noticed for %v", ask())
		}
	}
}

func TestTogether(t *testing.T) {
	var calls atomic.Int32
	if cases.Together(func() { calls.Add(1) }); calls.Load() != 80 {
		t.Errorf("%d calls", calls.Load())
	}
}

func TestFlags(t *testing.T) {
	want := []api.Flag{{At: 2, Kind: api.WriteWrite}, {At: 15, Var: 3, Kind: api.ReadWrite}, {At: 79, Var: 7, Kind: api.WriteRead}}
	if got := cases.Flags("2 x0 ww; 15 x3 rw; 79 x7 wr"); !slices.Equal(got, want) {
		t.Errorf("Flags = %v, want %v", got, want)
	}
	if got := cases.Flags(""); len(got) != 0 {
		t.Errorf("Flags without text = %v", got)
	}
}

func TestPairs(t *testing.T) {
	want := []api.Pair{{A: 0, B: 1}, {A: 12, B: 3}, {A: 4, B: 4}}
	if got := cases.Pairs("0-1 12-3 4-4"); !slices.Equal(got, want) {
		t.Errorf("Pairs = %v, want %v", got, want)
	}
	if got := cases.Pairs(""); len(got) != 0 {
		t.Errorf("Pairs without text = %v", got)
	}
}

func TestProgram(t *testing.T) {
	for s, want := range map[string][][]api.Op{
		"":                 {nil},
		"load x0":          {{{Kind: api.OLoad}}},
		"add -12 | add 12": {{{Kind: api.OAdd, N: -12}}, {{Kind: api.OAdd, N: 12}}},
		"| see v1; show v2; see v9 |": {
			nil, {{Kind: api.OSee, Obj: 1}, {Kind: api.OShow, Obj: 2}, {Kind: api.OSee, Obj: 9}}, nil,
		},
		"fork t1; join t5 | lock m3; unlock m4; store x7": {
			{{Kind: api.OFork, Obj: 1}, {Kind: api.OJoin, Obj: 5}},
			{{Kind: api.OLock, Obj: 3}, {Kind: api.OUnlock, Obj: 4}, {Kind: api.OStore, Obj: 7}},
		},
	} {
		if got := cases.Program(s); !cases.AreEqual(got, want) {
			t.Errorf("Program(%q) = %v, want %v", s, got, want)
		}
	}
}

// Programs that had only some kinds, objects or numbers would not tell much.
func TestMixed(t *testing.T) {
	found := map[api.Op]int{}
	for seed := range 2000 {
		sizes := []int{seed % 13, 12, 0, 5, 12, 1}[:seed%7]
		p := cases.Mixed(seed, sizes...)
		if len(p) != len(sizes) {
			t.Errorf("Mixed(%d, %v) = %v", seed, sizes, p)
		}
		for thread, ops := range p {
			if len(ops) != sizes[thread] {
				t.Errorf("Mixed(%d, %v) = %v", seed, sizes, p)
			}
			for _, op := range ops {
				found[op]++
			}
		}
	}
	for kind, last := range map[int]int{
		api.OLoad: 7, api.OStore: 7, api.OLock: 4, api.OUnlock: 4, api.OFork: 5, api.OJoin: 5, api.OSee: 3, api.OShow: 3,
	} {
		for obj := range last + 1 {
			op := api.Op{Kind: kind, Obj: obj}
			if found[op] == 0 {
				t.Errorf("no operation %v", op)
			}
			delete(found, op)
		}
	}
	for op := range found {
		if op.Kind != api.OAdd || op.Obj != 0 || op.N < -1000 || op.N > 1000 {
			t.Errorf("operation %v", op)
		}
	}
	if len(found) < 1000 {
		t.Errorf("only %d numbers", len(found))
	}
}

func TestLists(t *testing.T) {
	choices := cases.Program("load x0; add 3; lock m1")[0]
	for n, want := range []int{1, 4, 13, 40} {
		found := map[string]bool{}
		for _, ops := range cases.Lists(n, choices) {
			name := ""
			for _, op := range ops {
				name += string(rune('a' + slices.Index(choices, op)))
			}
			if found[name] = true; len(name) > n {
				t.Errorf("a list of %d operations, not up to %d", len(name), n)
			}
		}
		if len(found) != want {
			t.Errorf("%d lists of up to %d operations, want %d", len(found), n, want)
		}
	}
}

func TestCopied(t *testing.T) {
	p := cases.Program("load x0; add 3 | | lock m1")
	q := cases.Copied(p)
	if !cases.AreEqual(p, q) {
		t.Errorf("Copied(%v) = %v", p, q)
	}
	q[2][0].Obj = 2
	q[0] = nil
	if !cases.AreEqual(p, cases.Program("load x0; add 3 | | lock m1")) {
		t.Errorf("%v changed with the copy", p)
	}
}

func TestAreEqual(t *testing.T) {
	programs := []string{"", "|", "add 1", "add 2", "load x1", "add 1; add 1", "add 1 |", "| add 1", "add 1 | add 1"}
	for i, one := range programs {
		for j, other := range programs {
			if cases.AreEqual(cases.Program(one), cases.Program(other)) != (i == j) {
				t.Errorf("%q and %q", one, other)
			}
		}
	}
}

func TestChooser(t *testing.T) {
	found := map[int]bool{}
	below, again := cases.Chooser(5), cases.Chooser(5)
	for range 1000 {
		n := below(20)
		if n < 0 || n >= 20 || n != again(20) {
			t.Errorf("%d is not below 20, or not the same again", n)
		}
		found[n] = true
	}
	if len(found) != 20 {
		t.Errorf("numbers %v", found)
	}
}

func panics(call func()) (is bool) {
	defer func() { is = recover() != nil }()
	call()
	return false
}

func TestPanicsAtWrongTexts(t *testing.T) {
	for _, s := range []string{"", "t0 read m0", "t0 read x0; t0 read m0", "t0 read x0;"} {
		if !panics(func() { cases.Events(s) }) {
			t.Errorf("Events(%q): no panic", s)
		}
	}
	for _, s := range []string{" ", "2", "2 x0", "2 x0 rr", "2 0 ww", "x x0 ww", "2 xx ww", "2 x0 ww;", "2 x0 ww; 3"} {
		if !panics(func() { cases.Flags(s) }) {
			t.Errorf("Flags(%q): no panic", s)
		}
	}
	for _, s := range []string{"0", "0-", "-1", "0-x", "x-1", "0-1;", "0-1 2"} {
		if !panics(func() { cases.Pairs(s) }) {
			t.Errorf("Pairs(%q): no panic", s)
		}
	}
	for _, s := range []string{"x", "load", "load x", "load 0", "load m0", "add", "add x0", "add --1", "add 1;", "; add 1", "load x0 store x1", "load x0, add 1", "read x0"} {
		if !panics(func() { cases.Program(s) }) {
			t.Errorf("Program(%q): no panic", s)
		}
	}
}
