package clock_test

import (
	"math"
	"slices"
	"sync"
	"testing"

	"deadheat/api"
	"deadheat/clock"
)

// Some of the numbers are out of the range that Tick reaches: P1 and P3 hold for them, too.
var numbers = []int{math.MinInt, -1, 0, 1, 2, 999999, 1000000, 1000001, math.MaxInt}

var badThreads = []int{math.MinInt, -7, -1, 6, 7, 1 << 32, math.MaxInt}

// someClocks returns clocks that are equal, ordered in either direction, and unordered.
func someClocks() []api.Clock {
	clocks := []api.Clock{
		{1, 2},
		{2, 2},
		{2, 1},
		{1, 5, 2},
		{3, 4, 2},
		{0, 0, 0, 0, 0, 1},
		{1, 2, 3, 4, 5, 6},
		{6, 5, 4, 3, 2, 1},
		{math.MinInt, math.MaxInt, -1, 0, 1, 1000000},
		{math.MaxInt, math.MinInt, 0, -1, 1000000, 1},
	}
	for _, n := range numbers {
		clocks = append(clocks, api.Clock{n, n, n, n, n, n})
		for thread := range 6 {
			var c api.Clock
			c[thread] = n
			clocks = append(clocks, c)
		}
	}
	return clocks
}

// P3

func TestJoinAndMeet(t *testing.T) {
	tests := []struct{ a, b, join, meet api.Clock }{
		{api.Clock{}, api.Clock{}, api.Clock{}, api.Clock{}},
		{api.Clock{1, 2}, api.Clock{2, 2}, api.Clock{2, 2}, api.Clock{1, 2}},
		{api.Clock{1, 2}, api.Clock{2, 1}, api.Clock{2, 2}, api.Clock{1, 1}},
		{api.Clock{1, 2, 3, 4, 5, 6}, api.Clock{6, 5, 4, 3, 2, 1}, api.Clock{6, 5, 4, 4, 5, 6}, api.Clock{1, 2, 3, 3, 2, 1}},
		{api.Clock{-1, -2, 0, 0, 7, 7}, api.Clock{-2, -1, -3, 3, 7, 0}, api.Clock{-1, -1, 0, 3, 7, 7}, api.Clock{-2, -2, -3, 0, 7, 0}},
		{api.Clock{math.MinInt, math.MaxInt}, api.Clock{math.MaxInt, math.MinInt}, api.Clock{math.MaxInt, math.MaxInt}, api.Clock{math.MinInt, math.MinInt}},
	}
	for _, test := range tests {
		if got := clock.Join(test.a, test.b); got != test.join {
			t.Errorf("Join(%v, %v) = %v, want %v", test.a, test.b, got, test.join)
		}
		if got := clock.Meet(test.a, test.b); got != test.meet {
			t.Errorf("Meet(%v, %v) = %v, want %v", test.a, test.b, got, test.meet)
		}
	}
}

func TestJoinAndMeetOfEachElement(t *testing.T) {
	for _, a := range someClocks() {
		for _, b := range someClocks() {
			join, meet := clock.Join(a, b), clock.Meet(a, b)
			for thread := range 6 {
				if join[thread] != max(a[thread], b[thread]) {
					t.Errorf("Join(%v, %v) = %v", a, b, join)
				}
				if meet[thread] != min(a[thread], b[thread]) {
					t.Errorf("Meet(%v, %v) = %v", a, b, meet)
				}
			}
		}
	}
}

func TestCompareAndWithin(t *testing.T) {
	tests := []struct {
		a, b   api.Clock
		want   int
		within bool
	}{
		{api.Clock{}, api.Clock{}, 0, true},
		{api.Clock{3, 1, 4, 1, 5, 9}, api.Clock{3, 1, 4, 1, 5, 9}, 0, true},
		{api.Clock{1, 2}, api.Clock{2, 2}, 1, true},
		{api.Clock{2, 2}, api.Clock{1, 2}, 2, false},
		{api.Clock{1, 2}, api.Clock{2, 1}, 3, false},
		{api.Clock{1, 1, 1, 1, 1, 1}, api.Clock{2, 2, 2, 2, 2, 2}, 1, true},
		{api.Clock{2, 2, 2, 2, 2, 2}, api.Clock{1, 1, 1, 1, 1, 1}, 2, false},
		{api.Clock{9, 9, 9, 9, 9, 0}, api.Clock{0, 0, 0, 0, 0, 1}, 3, false},
		{api.Clock{-2}, api.Clock{-1}, 1, true},
		{api.Clock{math.MinInt}, api.Clock{math.MaxInt}, 1, true},
		{api.Clock{math.MaxInt}, api.Clock{math.MinInt}, 2, false},
	}
	for _, test := range tests {
		if got := clock.Compare(test.a, test.b); got != test.want {
			t.Errorf("Compare(%v, %v) = %d, want %d", test.a, test.b, got, test.want)
		}
		if got := clock.Within(test.a, test.b); got != test.within {
			t.Errorf("Within(%v, %v) = %v, want %v", test.a, test.b, got, test.within)
		}
	}
}

func TestCompareLooksAtEachThread(t *testing.T) {
	low := api.Clock{5, 5, 5, 5, 5, 5}
	for thread := range 6 {
		high := low
		high[thread]++
		if got := clock.Compare(low, high); got != api.Before {
			t.Errorf("thread %d greater in b: %d", thread, got)
		}
		if got := clock.Compare(high, low); got != api.After {
			t.Errorf("thread %d greater in a: %d", thread, got)
		}
		if !clock.Within(low, high) || clock.Within(high, low) {
			t.Errorf("thread %d: within", thread)
		}
		for other := range 6 {
			side := low
			side[other]++
			want := api.Beside
			if other == thread {
				want = api.Same
			}
			if got := clock.Compare(high, side); got != want {
				t.Errorf("threads %d and %d greater: %d, want %d", thread, other, got, want)
			}
		}
	}
}

func TestCompareAgreesWithWithin(t *testing.T) {
	for _, a := range someClocks() {
		for _, b := range someClocks() {
			there, back := clock.Within(a, b), clock.Within(b, a)
			want := api.Beside
			switch {
			case there && back:
				want = api.Same
			case there:
				want = api.Before
			case back:
				want = api.After
			}
			if got := clock.Compare(a, b); got != want {
				t.Errorf("Compare(%v, %v) = %d, want %d", a, b, got, want)
			}
			if there != (clock.Join(a, b) == b) || there != (clock.Meet(a, b) == a) {
				t.Errorf("Within(%v, %v) = %v", a, b, there)
			}
		}
	}
}

// P4

func TestTick(t *testing.T) {
	start := api.Clock{10, 20, 30, 40, 50, 60}
	for thread := range 6 {
		want := start
		want[thread]++
		if got, errno := clock.Tick(start, thread); got != want || errno != api.OK {
			t.Errorf("Tick(%v, %d) = %v, %d", start, thread, got, errno)
		}
	}
	for _, n := range []int{math.MinInt, -2, -1, 0, 999999} {
		got, errno := clock.Tick(api.Clock{0, n}, 1)
		if got != (api.Clock{0, n + 1}) || errno != api.OK {
			t.Errorf("Tick of %d = %v, %d", n, got, errno)
		}
	}
}

func TestTickErrors(t *testing.T) {
	const count = 1000000
	full := api.Clock{count, count, count, count, count, count}
	for _, thread := range badThreads {
		for _, c := range []api.Clock{{}, {1, 2, 3, 4, 5, 6}, full} {
			if got, errno := clock.Tick(c, thread); got != (api.Clock{}) || errno != 1 {
				t.Errorf("Tick(%v, %d) = %v, %d, want ErrArg", c, thread, got, errno)
			}
		}
	}
	for thread := range 6 {
		for _, n := range []int{count, count + 1, math.MaxInt} {
			c := api.Clock{1, 2, 3, 4, 5, 6}
			c[thread] = n
			if got, errno := clock.Tick(c, thread); got != (api.Clock{}) || errno != 2 {
				t.Errorf("Tick(%v, %d) = %v, %d, want ErrLarge", c, thread, got, errno)
			}
		}
		others := full
		others[thread] = 3
		want := full
		want[thread] = 4
		if got, errno := clock.Tick(others, thread); got != want || errno != api.OK {
			t.Errorf("Tick(%v, %d) = %v, %d: only the thread's own number counts", others, thread, got, errno)
		}
	}
}

func TestOf(t *testing.T) {
	c := api.Clock{0, -1, 7, 1000000, math.MaxInt, math.MinInt}
	for thread := range 6 {
		want := api.Epoch{Thread: thread, N: c[thread]}
		if got, errno := clock.Of(c, thread); got != want || errno != api.OK {
			t.Errorf("Of(%v, %d) = %v, %d", c, thread, got, errno)
		}
	}
	for _, thread := range badThreads {
		if got, errno := clock.Of(c, thread); got != (api.Epoch{}) || errno != 1 {
			t.Errorf("Of(%v, %d) = %v, %d, want ErrArg", c, thread, got, errno)
		}
	}
}

func TestSeen(t *testing.T) {
	c := api.Clock{10, 20, 30, 40, 50, 60}
	for thread := range 6 {
		for _, step := range []int{-1000, -1, 0, 1, 1000} {
			e := api.Epoch{Thread: thread, N: c[thread] + step}
			if got := clock.Seen(e, c); got != (step <= 0) {
				t.Errorf("Seen(%v, %v) = %v", e, c, got)
			}
		}
		if !clock.Seen(api.Epoch{Thread: thread}, api.Clock{}) {
			t.Errorf("number 0 of thread %d is not seen by the zero clock", thread)
		}
		if !clock.Seen(api.Epoch{Thread: thread, N: math.MinInt}, c) || clock.Seen(api.Epoch{Thread: thread, N: math.MaxInt}, c) {
			t.Errorf("extreme numbers of thread %d", thread)
		}
	}
	for _, thread := range badThreads {
		for _, n := range numbers {
			e := api.Epoch{Thread: thread, N: n}
			if clock.Seen(e, c) {
				t.Errorf("Seen(%v, %v) = true", e, c)
			}
		}
	}
}

// P1 and P2

// results is what all functions of the package return for some arguments.
type results struct {
	join, meet, tick      api.Clock
	within, seen          bool
	compare               int
	epoch                 api.Epoch
	tickErrno, epochErrno api.Errno
}

// callAll calls all functions of the package, in this order or backwards.
func callAll(a, b api.Clock, thread int, backwards bool) results {
	var r results
	calls := []func(){
		func() { r.join = clock.Join(a, b) },
		func() { r.meet = clock.Meet(a, b) },
		func() { r.within = clock.Within(a, b) },
		func() { r.compare = clock.Compare(a, b) },
		func() { r.tick, r.tickErrno = clock.Tick(a, thread) },
		func() { r.epoch, r.epochErrno = clock.Of(a, thread) },
		func() { r.seen = clock.Seen(api.Epoch{Thread: thread, N: a[0]}, b) },
	}
	if backwards {
		slices.Reverse(calls)
	}
	for _, call := range calls {
		call()
	}
	return r
}

func allThreads() []int {
	return append([]int{0, 1, 2, 3, 4, 5}, badThreads...)
}

func TestNoArgumentsPanic(t *testing.T) {
	defer func() {
		if p := recover(); p != nil {
			t.Errorf("panic: %v", p)
		}
	}()
	for _, a := range someClocks() {
		for _, b := range someClocks() {
			for _, thread := range allThreads() {
				callAll(a, b, thread, false)
			}
		}
	}
}

func TestArgumentsAreNotModified(t *testing.T) {
	a, b, e := api.Clock{1, 5, 2}, api.Clock{3, 4, 2}, api.Epoch{Thread: 1, N: 5}
	clock.Join(a, b)
	clock.Meet(a, b)
	clock.Within(a, b)
	clock.Compare(a, b)
	clock.Tick(a, 1)
	clock.Of(a, 1)
	clock.Seen(e, a)
	if a != (api.Clock{1, 5, 2}) || b != (api.Clock{3, 4, 2}) || e != (api.Epoch{Thread: 1, N: 5}) {
		t.Errorf("modified: %v, %v, %v", a, b, e)
	}
}

// Calls in another order, and at the same time, show a state that is kept between calls.
func TestResultsDependOnlyOnArguments(t *testing.T) {
	type call struct {
		a, b   api.Clock
		thread int
	}
	var calls []call
	clocks := someClocks()
	for i, a := range clocks {
		for _, thread := range allThreads() {
			calls = append(calls, call{a, clocks[len(clocks)-1-i], thread})
		}
	}
	var want []results
	for _, c := range calls {
		want = append(want, callAll(c.a, c.b, c.thread, false))
	}
	var group sync.WaitGroup
	for range 4 {
		group.Go(func() {
			for i := len(calls) - 1; i >= 0; i-- {
				c := calls[i]
				if got := callAll(c.a, c.b, c.thread, true); got != want[i] {
					t.Errorf("call %v again: %v, want %v", c, got, want[i])
				}
			}
		})
	}
	group.Wait()
}
