package prog_test

import (
	"slices"
	"testing"

	"deadheat/api"
	"deadheat/cases"
	"deadheat/prog"
	"deadheat/ring"
	"deadheat/trace"
)

// history is what the threads of a program have executed, in order. Whatever P28 asks is
// found in it by looking back: nothing else is stored.
type history struct {
	program [][]api.Op
	steps   []step
}

type step struct {
	thread int
	op     api.Op
}

// before returns the history up to a step, without that.
func (h history) before(at int) history {
	return history{h.program, h.steps[:at]}
}

func (h history) executed(thread int) int {
	count := 0
	for _, s := range h.steps {
		if s.thread == thread {
			count++
		}
	}
	return count
}

func (h history) hasBegun(thread int) bool {
	return thread == 0 || thread < len(h.program) && slices.ContainsFunc(h.steps, func(s step) bool {
		return s.op == api.Op{Kind: api.OFork, Obj: thread}
	})
}

// hasLock looks for the last operation of a thread with a lock: as it was executed, the
// lock was free if it is an OLock.
func (h history) hasLock(thread, lock int) bool {
	for _, s := range slices.Backward(h.steps) {
		if s.thread == thread && s.op.Obj == lock && (s.op.Kind == api.OLock || s.op.Kind == api.OUnlock) {
			return s.op.Kind == api.OLock
		}
	}
	return false
}

// register returns what a thread has added since it got a value from elsewhere, and that value.
func (h history) register(thread int) int {
	sum := 0
	for at, s := range slices.Backward(h.steps) {
		switch {
		case s.thread != thread:
		case s.op.Kind == api.OAdd:
			sum += s.op.N
		case s.op.Kind == api.OLoad:
			return sum + h.before(at).stored(api.OStore, s.op.Obj)
		case s.op.Kind == api.OSee:
			return sum + h.before(at).stored(api.OShow, s.op.Obj)
		}
	}
	return sum
}

// stored returns the register that the last operation of a kind has stored in an object.
func (h history) stored(kind, obj int) int {
	for at, s := range slices.Backward(h.steps) {
		if s.op.Kind == kind && s.op.Obj == obj {
			return h.before(at).register(s.thread)
		}
	}
	return 0
}

func (h history) canGoOn(thread int) bool {
	if thread < 0 || thread >= len(h.program) || !h.hasBegun(thread) || h.isOver(thread) {
		return false
	}
	switch op := h.program[thread][h.executed(thread)]; op.Kind {
	case api.OLock:
		for other := range h.program {
			if h.hasLock(other, op.Obj) {
				return false
			}
		}
	case api.OJoin:
		return op.Obj != thread && h.hasBegun(op.Obj) && h.isOver(op.Obj)
	}
	return true
}

func (h history) isOver(thread int) bool {
	return h.executed(thread) == len(h.program[thread])
}

func (h history) able() []int {
	var threads []int
	for thread := range h.program {
		if h.canGoOn(thread) {
			threads = append(threads, thread)
		}
	}
	return threads
}

// with returns the history with one pick more.
func (h history) with(pick int) history {
	if !h.canGoOn(pick) {
		return h
	}
	next := step{pick, h.program[pick][h.executed(pick)]}
	return history{h.program, append(h.steps[:len(h.steps):len(h.steps)], next)}
}

func (h history) end() api.End {
	var end api.End
	for x := range end.Mem {
		end.Mem[x] = h.stored(api.OStore, x)
	}
	for v := range end.Vols {
		end.Vols[v] = h.stored(api.OShow, v)
	}
	left, able := 0, 0
	for thread := range h.program {
		end.Has[thread] = h.register(thread)
		if h.hasBegun(thread) && !h.isOver(thread) {
			left++
		}
		if h.canGoOn(thread) {
			able++
		}
	}
	end.Done, end.Stuck = left == 0, left > 0 && able == 0
	return end
}

func (h history) events() []api.Event {
	kinds := map[int]int{
		api.OLoad: api.Read, api.OStore: api.Write, api.OLock: api.Acquire, api.OUnlock: api.Release,
		api.OFork: api.Fork, api.OJoin: api.Join, api.OSee: api.See, api.OShow: api.Show,
	}
	var l []api.Event
	for at, s := range h.steps {
		sofar := h.before(at)
		hasEffect := true
		switch s.op.Kind {
		case api.OAdd:
			continue
		case api.OUnlock:
			hasEffect = sofar.hasLock(s.thread, s.op.Obj)
		case api.OFork:
			hasEffect = s.op.Obj < len(h.program) && !sofar.hasBegun(s.op.Obj)
		}
		if hasEffect {
			l = append(l, api.Event{Kind: kinds[s.op.Kind], Thread: s.thread, Obj: s.op.Obj})
		}
	}
	return l
}

// wantTrace wants that the events of an execution are a trace, at whose end the same
// threads have begun and have the same locks.
func wantTrace(t *testing.T, h history, l []api.Event) {
	t.Helper()
	if at, errno := trace.Check(l); errno != api.OK {
		t.Errorf("%v: Check(%v) = %d, %d", h, l, at, errno)
	}
	begun, _ := trace.Threads(l)
	for thread := range 6 {
		if slices.Contains(begun, thread) != h.hasBegun(thread) {
			t.Errorf("%v: Threads(%v) = %v", h, l, begun)
		}
		held, _ := trace.Held(l, thread)
		for lock := range 5 {
			if (held>>lock&1 == 1) != h.hasLock(thread, lock) {
				t.Errorf("%v: Held(%v, %d) = %d", h, l, thread, held)
			}
		}
	}
}

// counts tells how many executions had which ends and which events.
type counts struct {
	done, stuck, other int
	kinds              [9]int
}

func (c *counts) add(end api.End, l []api.Event) {
	switch {
	case end.Done:
		c.done++
	case end.Stuck:
		c.stuck++
	default:
		c.other++
	}
	for _, e := range l {
		c.kinds[e.Kind]++
	}
}

// wantMany wants that there were executions of all sorts: a test of others would not tell much.
func (c *counts) wantMany(t *testing.T, least int) {
	t.Helper()
	if slices.Min([]int{c.done, c.stuck, c.other, slices.Min(c.kinds[1:])}) < least {
		t.Errorf("too few executions: %+v", c)
	}
}

// Threads of a few operations, in all orders of execution.
func TestAllOrdersOfShortPrograms(t *testing.T) {
	var found counts
	choices := cases.Program("load x0; store x0; add 1; lock m0; unlock m0; fork t1; fork t2; join t0; join t1; join t2; see v0; show v0")[0]
	lists := cases.Lists(2, choices)
	fork := cases.Program("fork t1")[0]
	for _, first := range lists {
		for _, second := range lists {
			p := [][]api.Op{slices.Concat(fork, first), second}
			wantAllOrders(t, &found, history{program: p}, nil)
		}
	}
	found.wantMany(t, 1000)
}

// wantAllOrders wants what P28 and P29 say of all executions that begin with some picks.
func wantAllOrders(t *testing.T, found *counts, h history, picks []int) {
	end, events := h.end(), h.events()
	found.add(end, events)
	wantTrace(t, h, events)
	wantRun(t, h.program, picks, end, events)
	wantAble(t, h.program, picks, h.able())
	for pick := range len(h.program) + 1 {
		longer := append(picks[:len(picks):len(picks)], pick)
		if h.canGoOn(pick) {
			wantAllOrders(t, found, h.with(pick), longer)
		} else {
			wantRun(t, h.program, longer, end, events)
		}
	}
}

// manySizes returns numbers of operations of the threads of programs.
func manySizes() [][]int {
	return [][]int{{12, 12, 12, 12, 12, 12}, {12, 12, 12, 12}, {12, 8, 10}, {12, 12}, {12}, {5, 6, 4}, {8, 0, 9, 0, 10}, {3, 3, 3, 3, 3, 3}, {6, 3}, {1, 12}}
}

// mixedPicks returns 100 picks; some are of no thread of the program.
func mixedPicks(seed, threads int) []int {
	below := cases.Chooser(seed)
	var picks []int
	for range 100 {
		picks = append(picks, below(threads+2)-1)
	}
	return picks
}

func TestMixedPrograms(t *testing.T) {
	var found counts
	for seed := range 200 {
		for _, sizes := range manySizes() {
			h := history{program: cases.Mixed(seed, sizes...)}
			picks := mixedPicks(seed+1000, len(sizes))
			for _, pick := range picks {
				h = h.with(pick)
			}
			end, events := h.end(), h.events()
			found.add(end, events)
			wantTrace(t, h, events)
			wantRun(t, h.program, picks, end, events)
			wantAble(t, h.program, picks, h.able())
		}
	}
	found.wantMany(t, 100)
}

// After each pick, the end is what there is then.
func TestPrefixesOfPicks(t *testing.T) {
	var found counts
	for seed := range 20 {
		for _, sizes := range manySizes() {
			h := history{program: cases.Mixed(seed, sizes...)}
			picks := mixedPicks(seed+2000, len(sizes))
			for n, pick := range picks {
				end, events := h.end(), h.events()
				found.add(end, events)
				wantRun(t, h.program, picks[:n], end, events)
				wantAble(t, h.program, picks[:n], h.able())
				h = h.with(pick)
			}
		}
	}
	found.wantMany(t, 200)
}

// hasWhenItAcquires is P30 in other words: an OLock of b comes when the thread has a and
// not yet b.
func hasWhenItAcquires(ops []api.Op, a, b int) bool {
	for at, op := range ops {
		if op == (api.Op{Kind: api.OLock, Obj: b}) && hasAlone(ops[:at], a) && !hasAlone(ops[:at], b) {
			return true
		}
	}
	return false
}

// hasAlone reports whether the last of a thread's operations with a lock is an OLock.
func hasAlone(ops []api.Op, lock int) bool {
	for _, op := range slices.Backward(ops) {
		switch op {
		case api.Op{Kind: api.OLock, Obj: lock}:
			return true
		case api.Op{Kind: api.OUnlock, Obj: lock}:
			return false
		}
	}
	return false
}

func wantPairs(t *testing.T, p [][]api.Op, thread int) {
	t.Helper()
	var want []api.Pair
	for a := range 5 {
		for b := range 5 {
			if hasWhenItAcquires(p[thread], a, b) {
				want = append(want, api.Pair{A: a, B: b})
			}
		}
	}
	wantAlone(t, p, thread, want, api.OK)
}

func TestAloneOfAllLists(t *testing.T) {
	for _, ops := range cases.Lists(6, cases.Program("lock m0; lock m1; lock m3; unlock m0; unlock m1")[0]) {
		wantPairs(t, [][]api.Op{ops}, 0)
	}
	for _, ops := range cases.Lists(4, cases.Program("lock m4; lock m2; unlock m2; unlock m4; load x4; join t2; fork t4; show v2; add 2")[0]) {
		wantPairs(t, [][]api.Op{nil, ops}, 1)
	}
}

func TestAloneOfMixedPrograms(t *testing.T) {
	for seed := range 500 {
		below := cases.Chooser(seed)
		p := cases.Mixed(seed, 12, 12, 12, 12, 12, 12)
		for thread := range p {
			for at := range p[thread] {
				if below(4) > 0 {
					p[thread][at] = api.Op{Kind: api.OLock + below(2), Obj: below(5)}
				}
			}
			wantPairs(t, p, thread)
		}
	}
}

// DOC.md: threads that acquire locks in one order are never stuck, if each acquires only
// locks that it has not, and releases all of them.
func TestLocksInOneOrder(t *testing.T) {
	var lists [][]api.Op
	for _, ops := range cases.Lists(4, cases.Program("lock m0; lock m1; unlock m0; unlock m1")[0]) {
		if isOrderly(ops) {
			lists = append(lists, ops)
		}
	}
	fork := cases.Program("fork t1")[0]
	stuck := map[bool]int{}
	for _, first := range lists {
		for _, second := range lists {
			p := [][]api.Op{slices.Concat(fork, first), second}
			one, _ := prog.Alone(p, 0)
			other, _ := prog.Alone(p, 1)
			cycle, _ := ring.Ring(slices.Concat(one, other))
			isStuck := canBeStuck(p, nil)
			if isStuck && len(cycle) == 0 {
				t.Errorf("%v can be stuck", p)
			}
			stuck[isStuck]++
		}
	}
	if stuck[true] == 0 || stuck[false] == 0 {
		t.Errorf("no programs of one sort: %v", stuck)
	}
}

// isOrderly reports whether a thread acquires only locks that it has not, releases only
// those that it has, and has none at the end.
func isOrderly(ops []api.Op) bool {
	for at, op := range ops {
		if hasAlone(ops[:at], op.Obj) != (op.Kind == api.OUnlock) {
			return false
		}
	}
	return !hasAlone(ops, 0) && !hasAlone(ops, 1)
}

// canBeStuck looks at all executions that begin with some picks, of two threads.
func canBeStuck(p [][]api.Op, picks []int) bool {
	end, _, _ := prog.Run(p, picks)
	if end.Done || end.Stuck || len(picks) > 9 {
		return end.Stuck
	}
	longer := picks[:len(picks):len(picks)]
	return canBeStuck(p, append(longer, 0)) || canBeStuck(p, append(longer, 1))
}
