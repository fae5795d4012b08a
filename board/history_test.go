package board_test

import (
	"cmp"
	"runtime"
	"slices"
	"sync"
	"sync/atomic"
	"testing"

	"deadheat/api"
	"deadheat/board"
	"deadheat/cases"
	"deadheat/fast"
	"deadheat/trace"
)

// P34: several goroutines use one board at the same time.

// together calls a function in several goroutines, which wait until all are there.
func together(goroutines int, call func(i int)) {
	var there, over sync.WaitGroup
	there.Add(goroutines)
	for i := range goroutines {
		over.Go(func() {
			there.Done()
			there.Wait()
			call(i)
		})
	}
	over.Wait()
}

// Whoever has acquired the lock is the only one.
func TestOneOfSeveralAcquires(t *testing.T) {
	for range 200 {
		b := boardOf(t, cases.Events("t0 fork t1; t0 fork t2; t0 fork t3; t0 fork t4; t0 fork t5"))
		var errnos [6]api.Errno
		together(6, func(i int) {
			_, errnos[i] = b.Tell(api.Event{Kind: api.Acquire, Thread: i, Obj: 2})
		})
		winner := slices.Index(errnos[:], api.OK)
		if l := b.Trace(); len(l) != 6 || winner < 0 || l[5] != (api.Event{Kind: api.Acquire, Thread: winner, Obj: 2}) {
			t.Fatalf("%v, errors %v", l, errnos)
		}
		for i, errno := range errnos {
			if i != winner && errno != api.ErrHeld {
				t.Errorf("thread %d: %d, want ErrHeld", i, errno)
			}
		}
	}
}

// Of too many events, as many as there is room for are accepted, each with an index of
// its own, and those of one goroutine stay in their order.
func TestTooManyEventsOfSeveralGoroutines(t *testing.T) {
	for range 200 {
		b := board.New()
		var indices [8][]int
		together(8, func(i int) {
			for range 15 {
				if at, errno := b.Tell(api.Event{Kind: api.Write, Obj: i}); errno == api.OK {
					indices[i] = append(indices[i], at)
				} else if errno != api.ErrLarge || at != 0 {
					t.Errorf("Tell = %d, %d", at, errno)
				}
			}
		})
		l := b.Trace()
		all := slices.Concat(indices[:]...)
		if slices.Sort(all); len(l) != 80 || !slices.Equal(all, numbers(80)) {
			t.Fatalf("%d events; indices %v", len(l), all)
		}
		for i, own := range indices {
			if !slices.IsSorted(own) {
				t.Errorf("goroutine %d: indices %v", i, own)
			}
			for _, at := range own {
				if l[at].Obj != i {
					t.Errorf("goroutine %d told event %d, which is %v", i, at, l[at])
				}
			}
		}
	}
}

// numbers returns the numbers below n.
func numbers(n int) []int {
	l := make([]int, n)
	for i := range l {
		l[i] = i
	}
	return l
}

// call is a call of a method: when it began and ended, and whether it can have had its
// effect when the trace was the first n events of what it became at last. One that
// appends made it n + 1 events.
type call struct {
	begin, end int64
	appends    bool
	fits       func(last []api.Event, n int) bool
}

func callOfTell(b *board.Board, e api.Event) call {
	at, errno := b.Tell(e)
	return call{appends: errno == api.OK, fits: func(last []api.Event, n int) bool {
		if errno == api.OK {
			return at == n && n < len(last) && last[n] == e
		}
		_, want := trace.Check(append(last[:n:n], e))
		return at == 0 && errno == want
	}}
}

func callOfTrace(b *board.Board) call {
	got := b.Trace()
	return call{fits: func(last []api.Event, n int) bool { return slices.Equal(got, last[:n]) }}
}

func callOfFlags(b *board.Board) call {
	got := b.Flags()
	return call{fits: func(last []api.Event, n int) bool {
		want, _ := fast.Run(last[:n])
		return slices.Equal(got, want)
	}}
}

// earliest returns the earliest point, not before a given one, at which a call can have
// had its effect. The trace has n events at the point 2n; between 2n and 2n + 2 an event
// is appended.
func (c call) earliest(last []api.Event, from int) (int, bool) {
	for n := range len(last) + 1 {
		point := 2 * n
		if c.appends {
			point++
		}
		if point >= from && c.fits(last, n) {
			return point, true
		}
	}
	return 0, false
}

// isPossible reports whether each call can have had its effect at a point between its
// beginning and its end, and the calls that append are all that made the trace what it
// is. As the trace only grows, no call needs a later point than the earliest one that is
// not before those of the calls that had ended.
func isPossible(calls []call, last []api.Event) bool {
	calls = slices.SortedFunc(slices.Values(calls), func(c, d call) int { return cmp.Compare(c.begin, d.begin) })
	points := make([]int, len(calls))
	var indices []int
	for i, c := range calls {
		from := 0
		for j, earlier := range calls[:i] {
			if earlier.end < c.begin {
				from = max(from, points[j])
			}
		}
		point, is := c.earliest(last, from)
		if !is {
			return false
		}
		points[i] = point
		if c.appends {
			indices = append(indices, point/2)
		}
	}
	slices.Sort(indices)
	return slices.Equal(indices, numbers(len(last)))
}

// aCall calls one of the methods.
func aCall(b *board.Board, below func(int) int) call {
	switch below(8) {
	case 0:
		return callOfTrace(b)
	case 1:
		return callOfFlags(b)
	}
	return callOfTell(b, anEvent(below))
}

// history lets several goroutines use a board, and returns all their calls. It counts
// the time: whatever ended before something else began has the lower number.
func history(b *board.Board, goroutines, seed int) []call {
	var now atomic.Int64
	calls := make([][]call, goroutines)
	together(goroutines, func(i int) {
		below := cases.Chooser(seed*goroutines + i)
		for range 40 {
			begin := now.Add(1)
			if below(2) == 0 {
				runtime.Gosched() // so that calls overlap where there are few processors, too
			}
			c := aCall(b, below)
			c.begin, c.end = begin, now.Add(1)
			calls[i] = append(calls[i], c)
		}
	})
	return slices.Concat(calls...)
}

func TestEachCallHasItsEffectAtOnePoint(t *testing.T) {
	for seed := range 150 {
		b := boardOf(t, cases.Events("t0 fork t1; t0 fork t2"))
		start := len(b.Trace())
		calls := history(b, 2+seed%5, seed)
		for i := range start { // Those that told the start ended before all others began.
			calls = append(calls, call{appends: true, fits: func(_ []api.Event, n int) bool { return n == i }})
		}
		if last := b.Trace(); !isPossible(calls, last) {
			t.Errorf("seed %d: a call did not have its effect at one point; at last, the trace is %v", seed, last)
		}
	}
}

// A check that finds everything possible would not tell much.
func TestIsPossible(t *testing.T) {
	full := boardOf(t, cases.Events("t0 fork t1; t0 write x0; t1 write x0"))
	last := full.Trace()
	tell := func(n int) call { return callOfTell(boardOf(t, last[:n]), last[n]) }
	seen := func(n int) call { return callOfTrace(boardOf(t, last[:n])) }
	flags := func(n int) call { return callOfFlags(boardOf(t, last[:n])) }
	held := callOfTell(boardOf(t, last[:1]), last[0])  // ErrTwice
	early := callOfTell(board.New(), last[2])          // ErrState
	wrong := callOfTell(boardOf(t, last[:1]), last[2]) // index 1, which another event has
	at := func(begin, end int64, c call) call { c.begin, c.end = begin, end; return c }
	told := []call{at(10, 19, tell(0)), at(20, 29, tell(1)), at(30, 39, tell(2))}
	for name, step := range map[string]struct {
		calls []call
		want  bool
	}{
		"one after the other":       {told, true},
		"no last event":             {told[:2], false},
		"an event twice":            {append(told[:3:3], told[1]), false},
		"another event":             {[]call{told[0], at(20, 29, wrong), told[2]}, false},
		"out of order":              {[]call{told[0], at(40, 49, tell(1)), told[2]}, false},
		"out of order, overlapping": {[]call{told[0], at(20, 49, tell(1)), told[2]}, true},
		"trace":                     {append(told[:3:3], at(22, 27, seen(1)), at(32, 37, seen(3))), true},
		"back":                      {append(told[:3:3], at(22, 24, seen(2)), at(25, 27, seen(1))), false},
		"forth":                     {append(told[:3:3], at(22, 24, seen(1)), at(25, 27, seen(2))), true},
		"too early":                 {append(told[:3:3], at(12, 17, seen(2))), false},
		"too late":                  {append(told[:3:3], at(32, 37, seen(1))), false},
		"flags":                     {append(told[:3:3], at(1, 2, flags(0)), at(32, 37, flags(3))), true},
		"flags too early":           {append(told[:3:3], at(22, 27, flags(3))), false},
		"flags too late":            {append(told[:3:3], at(42, 47, flags(2))), false},
		"no flags, between":         {append(told[:3:3], at(22, 27, flags(0))), true},
		"error":                     {append(told[:3:3], at(1, 2, early), at(12, 17, held)), true},
		"error too early":           {append(told[:3:3], at(1, 2, held)), false},
		"error too late":            {append(told[:3:3], at(20, 22, early)), false},
	} {
		if got := isPossible(step.calls, last); got != step.want {
			t.Errorf("%s: %t, want %t", name, got, step.want)
		}
	}
}
