package trace_test

import (
	"math"
	"slices"
	"sync"
	"testing"

	"deadheat/api"
	"deadheat/trace"
)

// limits has, for each kind, how many objects there are (index 0: no kind).
var limits = []int{0, 8, 8, 5, 5, 6, 6, 4, 4}

var badKinds = []int{math.MinInt, -1, 0, 9, 10, 1<<8 + 1, 1<<32 + 1, math.MaxInt}

var badThreads = []int{math.MinInt, -7, -1, 6, 7, 1 << 32, math.MaxInt}

func read(t, x int) api.Event    { return api.Event{Kind: 1, Thread: t, Obj: x} }
func write(t, x int) api.Event   { return api.Event{Kind: 2, Thread: t, Obj: x} }
func acquire(t, m int) api.Event { return api.Event{Kind: 3, Thread: t, Obj: m} }
func release(t, m int) api.Event { return api.Event{Kind: 4, Thread: t, Obj: m} }
func fork(t, o int) api.Event    { return api.Event{Kind: 5, Thread: t, Obj: o} }
func join(t, o int) api.Event    { return api.Event{Kind: 6, Thread: t, Obj: o} }
func see(t, v int) api.Event     { return api.Event{Kind: 7, Thread: t, Obj: v} }
func show(t, v int) api.Event    { return api.Event{Kind: 8, Thread: t, Obj: v} }

func list(events ...api.Event) []api.Event { return events }

// reads returns a trace of n Reads.
func reads(n int) []api.Event {
	return slices.Repeat(list(read(0, 0)), n)
}

func wantCheck(t *testing.T, l []api.Event, at int, want api.Errno) {
	t.Helper()
	if got, errno := trace.Check(l); got != at || errno != want {
		t.Errorf("Check(%v) = %d, %d, want %d, %d", l, got, errno, at, want)
	}
}

func wantHeld(t *testing.T, l []api.Event, thread, want int, wantErrno api.Errno) {
	t.Helper()
	if got, errno := trace.Held(l, thread); got != want || errno != wantErrno {
		t.Errorf("Held(%v, %d) = %d, %d, want %d, %d", l, thread, got, errno, want, wantErrno)
	}
}

func wantThreads(t *testing.T, l []api.Event, want []int, wantErrno api.Errno) {
	t.Helper()
	if got, errno := trace.Threads(l); !slices.Equal(got, want) || errno != wantErrno {
		t.Errorf("Threads(%v) = %v, %d, want %v, %d", l, got, errno, want, wantErrno)
	}
}

// failing is a trace with an error, and the index of the event that causes it.
type failing struct {
	l    []api.Event
	at   int
	want api.Errno
}

// invalid returns a trace with each of the errors.
func invalid() []failing {
	return []failing{
		{list(acquire(0, 2), api.Event{Kind: 9}), 1, api.ErrArg},
		{reads(81), 0, api.ErrLarge},
		{list(acquire(0, 2), acquire(0, 2)), 1, api.ErrHeld},
		{list(acquire(0, 2), release(0, 1)), 1, api.ErrFree},
		{list(fork(0, 1), acquire(1, 2), fork(0, 1)), 2, api.ErrTwice},
		{list(fork(0, 1), acquire(0, 2), join(0, 2)), 2, api.ErrNone},
		{list(fork(0, 1), acquire(0, 2), read(2, 0)), 2, api.ErrState},
	}
}

// P5 and P6: what is in range

func TestAllEventsInRange(t *testing.T) {
	forkAll := list(fork(0, 1), fork(0, 2), fork(0, 3), fork(0, 4), fork(0, 5))
	for thread := range 6 {
		for kind := 1; kind <= 8; kind++ {
			for obj := range limits[kind] {
				e := api.Event{Kind: kind, Thread: thread, Obj: obj}
				switch {
				case kind == api.Release:
					wantCheck(t, append(forkAll[:5:5], e), 5, api.ErrFree)
					wantCheck(t, append(forkAll[:5:5], acquire(thread, obj), e), 0, api.OK)
				case kind == api.Fork:
					wantCheck(t, append(forkAll[:5:5], e), 5, api.ErrTwice)
				case kind == api.Join && obj == thread:
					wantCheck(t, append(forkAll[:5:5], e), 5, api.ErrNone)
				default:
					wantCheck(t, append(forkAll[:5:5], e), 0, api.OK)
				}
			}
		}
	}
}

func TestOutOfRange(t *testing.T) {
	var bad []api.Event
	for kind := 1; kind <= 8; kind++ {
		for _, obj := range []int{math.MinInt, -1, limits[kind], limits[kind] + 1, 1 << 32, math.MaxInt} {
			bad = append(bad, api.Event{Kind: kind, Obj: obj})
		}
		for _, thread := range badThreads {
			bad = append(bad, api.Event{Kind: kind, Thread: thread})
		}
	}
	for _, kind := range badKinds {
		for _, obj := range []int{math.MinInt, -1, 0, 1, 8, math.MaxInt} {
			bad = append(bad, api.Event{Kind: kind, Obj: obj})
		}
	}
	for _, e := range bad {
		wantCheck(t, list(e), 0, api.ErrArg)
		wantCheck(t, list(read(0, 0), acquire(0, 0), e), 2, api.ErrArg)
	}
}

// P5: when threads begin and are over

func TestOnlyThread0HasBegun(t *testing.T) {
	wantCheck(t, nil, 0, api.OK)
	wantCheck(t, list(), 0, api.OK)
	wantCheck(t, list(write(0, 7)), 0, api.OK)
	for thread := 1; thread < 6; thread++ {
		for kind := 1; kind <= 8; kind++ {
			wantCheck(t, list(api.Event{Kind: kind, Thread: thread}), 0, api.ErrState)
		}
		wantCheck(t, list(fork(thread, thread)), 0, api.ErrState)
		wantCheck(t, list(join(thread, thread)), 0, api.ErrState)
		wantCheck(t, list(fork(0, thread), show(thread, 0)), 0, api.OK)
		wantCheck(t, list(fork(0, thread%5+1), show(thread, 0)), 1, api.ErrState)
	}
	wantCheck(t, list(fork(0, 5), fork(5, 3), fork(3, 1), see(1, 3)), 0, api.OK)
}

func TestThreadThatWasJoinedIsOver(t *testing.T) {
	for kind := 1; kind <= 8; kind++ {
		wantCheck(t, list(fork(0, 1), join(0, 1), api.Event{Kind: kind, Thread: 1}), 2, api.ErrState)
		wantCheck(t, list(fork(0, 1), join(1, 0), api.Event{Kind: kind}), 2, api.ErrState)
	}
	wantCheck(t, list(fork(0, 1), fork(0, 2), join(1, 2), read(0, 0), read(1, 0)), 0, api.OK)
	wantCheck(t, list(fork(0, 1), fork(0, 2), join(1, 2), read(2, 0)), 3, api.ErrState)
	wantCheck(t, list(fork(0, 1), join(1, 0), read(1, 0), fork(1, 2), join(2, 0), join(2, 1)), 0, api.OK)
}

// P6: each error

func TestLocks(t *testing.T) {
	for lock := range 5 {
		wantCheck(t, list(fork(0, 1), acquire(0, lock), acquire(0, lock)), 2, api.ErrHeld)
		wantCheck(t, list(fork(0, 1), acquire(0, lock), acquire(1, lock)), 2, api.ErrHeld)
		wantCheck(t, list(fork(0, 1), acquire(1, lock), acquire(0, lock)), 2, api.ErrHeld)
		wantCheck(t, list(fork(0, 1), acquire(1, lock), acquire(1, (lock+1)%5)), 0, api.OK)
		wantCheck(t, list(fork(0, 1), release(1, lock)), 1, api.ErrFree)
		wantCheck(t, list(fork(0, 1), acquire(0, lock), release(1, lock)), 2, api.ErrFree)
		wantCheck(t, list(acquire(0, lock), release(0, (lock+1)%5)), 1, api.ErrFree)
		wantCheck(t, list(acquire(0, lock), release(0, lock), release(0, lock)), 2, api.ErrFree)
		wantCheck(t, list(fork(0, 1), acquire(0, lock), release(0, lock), acquire(1, lock), release(1, lock), acquire(0, lock)), 0, api.OK)
	}
	wantCheck(t, list(acquire(0, 0), acquire(0, 1), release(0, 0), release(0, 1)), 0, api.OK)
}

func TestThreadKeepsItsLocksWhenItIsOver(t *testing.T) {
	l := list(fork(0, 1), acquire(1, 3), join(0, 1))
	wantCheck(t, append(l[:3:3], acquire(0, 3)), 3, api.ErrHeld)
	wantCheck(t, append(l[:3:3], release(0, 3)), 3, api.ErrFree)
	wantCheck(t, append(l[:3:3], release(1, 3)), 3, api.ErrState)
	wantCheck(t, append(l[:3:3], acquire(0, 2)), 0, api.OK)
}

func TestForkOfThreadThatHasBegun(t *testing.T) {
	wantCheck(t, list(fork(0, 0)), 0, api.ErrTwice)
	wantCheck(t, list(fork(0, 1), fork(0, 1)), 1, api.ErrTwice)
	wantCheck(t, list(fork(0, 1), fork(1, 1)), 1, api.ErrTwice)
	wantCheck(t, list(fork(0, 1), fork(1, 0)), 1, api.ErrTwice)
	wantCheck(t, list(fork(0, 1), join(0, 1), fork(0, 1)), 2, api.ErrTwice)
	wantCheck(t, list(fork(0, 1), fork(1, 2), fork(0, 2)), 2, api.ErrTwice)
}

func TestJoin(t *testing.T) {
	wantCheck(t, list(join(0, 0)), 0, api.ErrNone)
	wantCheck(t, list(fork(0, 1), join(1, 1)), 1, api.ErrNone)
	for thread := 1; thread < 6; thread++ {
		wantCheck(t, list(join(0, thread)), 0, api.ErrNone)
		wantCheck(t, list(fork(0, thread), join(0, thread)), 0, api.OK)
		wantCheck(t, list(fork(0, thread), join(thread, 0)), 0, api.OK)
	}
	wantCheck(t, list(fork(0, 1), fork(0, 2), join(0, 1), join(0, 1), join(2, 1)), 0, api.OK)
	wantCheck(t, list(fork(0, 1), join(0, 1), join(0, 2)), 2, api.ErrNone)
}

// P6: the order of the errors

func TestAtMost80Events(t *testing.T) {
	for _, n := range []int{1, 79, 80} {
		wantCheck(t, reads(n), 0, api.OK)
	}
	for _, n := range []int{81, 82, 1000} {
		wantCheck(t, reads(n), 0, api.ErrLarge)
		wantHeld(t, reads(n), 0, 0, api.ErrLarge)
		wantThreads(t, reads(n), nil, api.ErrLarge)
	}
	wantCheck(t, append(reads(79), release(0, 0)), 79, api.ErrFree)
	wantCheck(t, append(reads(80), api.Event{}), 0, api.ErrLarge)
	wantCheck(t, make([]api.Event, 80), 0, api.ErrArg)
	wantCheck(t, make([]api.Event, 81), 0, api.ErrLarge)
}

func TestErrArgIsBeforeErrState(t *testing.T) {
	for kind := 1; kind <= 8; kind++ {
		for _, obj := range []int{-1, limits[kind]} {
			wantCheck(t, list(api.Event{Kind: kind, Thread: 3, Obj: obj}), 0, api.ErrArg)
			wantCheck(t, list(fork(0, 3), join(0, 3), api.Event{Kind: kind, Thread: 3, Obj: obj}), 2, api.ErrArg)
		}
	}
	for _, kind := range badKinds {
		wantCheck(t, list(api.Event{Kind: kind, Thread: 3}), 0, api.ErrArg)
	}
}

func TestErrStateIsBeforeTheErrorsOfKinds(t *testing.T) {
	wantCheck(t, list(acquire(0, 0), acquire(1, 0)), 1, api.ErrState)
	wantCheck(t, list(release(1, 0)), 0, api.ErrState)
	wantCheck(t, list(fork(1, 0)), 0, api.ErrState)
	wantCheck(t, list(join(1, 1)), 0, api.ErrState)
	over := list(fork(0, 1), acquire(0, 0), join(0, 1))
	for _, e := range list(acquire(1, 0), release(1, 0), fork(1, 0), fork(1, 1), join(1, 1), join(1, 2)) {
		wantCheck(t, append(over[:3:3], e), 3, api.ErrState)
	}
}

func TestFirstErrorIsReturned(t *testing.T) {
	for _, first := range invalid() {
		if first.want == api.ErrLarge {
			continue
		}
		for _, e := range list(api.Event{}, read(-1, 0), read(0, 8), read(3, 0), acquire(0, 2), release(0, 4), fork(0, 0), join(0, 0)) {
			wantCheck(t, append(first.l[:len(first.l):len(first.l)], e), first.at, first.want)
		}
	}
}

// expected is what Check says of an event behind a valid trace. It looks through
// the trace for what the chapter mentions, and so keeps no state to get wrong.
func expected(l []api.Event, e api.Event) api.Errno {
	begun := func(thread int) bool {
		return thread == 0 || slices.ContainsFunc(l, func(b api.Event) bool { return b.Kind == api.Fork && b.Obj == thread })
	}
	over := slices.ContainsFunc(l, func(b api.Event) bool { return b.Kind == api.Join && b.Obj == e.Thread })
	owner := -1
	for _, b := range l {
		if b.Kind == api.Acquire && b.Obj == e.Obj {
			owner = b.Thread
		}
		if b.Kind == api.Release && b.Obj == e.Obj {
			owner = -1
		}
	}
	switch {
	case !begun(e.Thread) || over:
		return api.ErrState
	case e.Kind == api.Acquire && owner != -1:
		return api.ErrHeld
	case e.Kind == api.Release && owner != e.Thread:
		return api.ErrFree
	case e.Kind == api.Fork && begun(e.Obj):
		return api.ErrTwice
	case e.Kind == api.Join && (e.Obj == e.Thread || !begun(e.Obj)):
		return api.ErrNone
	}
	return api.OK
}

func TestAllShortTraces(t *testing.T) {
	var events []api.Event
	for thread := range 3 {
		events = append(events, read(thread, 0), show(thread, 1))
		for obj := range 3 {
			events = append(events, fork(thread, obj), join(thread, obj))
		}
		for obj := range 2 {
			events = append(events, acquire(thread, obj), release(thread, obj))
		}
	}
	var extend func(l []api.Event)
	extend = func(l []api.Event) {
		for _, e := range events {
			longer := append(l[:len(l):len(l)], e)
			want := expected(l, e)
			if want != api.OK {
				wantCheck(t, longer, len(l), want)
				continue
			}
			wantCheck(t, longer, 0, api.OK)
			if len(longer) < 5 {
				extend(longer)
			}
		}
	}
	extend(nil)
}

// P7

func TestHeld(t *testing.T) {
	wantHeld(t, nil, 0, 0, api.OK)
	for thread := 1; thread < 6; thread++ {
		wantHeld(t, list(acquire(0, 1)), thread, 0, api.OK)
	}
	all := list(fork(0, 5), acquire(0, 0), acquire(0, 1), acquire(0, 2), acquire(0, 3), acquire(0, 4))
	wantHeld(t, all, 0, 31, api.OK)
	wantHeld(t, all, 5, 0, api.OK)
	for lock := range 5 {
		wantHeld(t, list(fork(0, 5), acquire(5, lock)), 5, 1<<lock, api.OK)
		wantHeld(t, list(fork(0, 5), acquire(5, lock)), 0, 0, api.OK)
		wantHeld(t, append(all[:6:6], release(0, lock)), 0, 31-1<<lock, api.OK)
		moved := append(all[:6:6], release(0, lock), acquire(5, lock))
		wantHeld(t, moved, 0, 31-1<<lock, api.OK)
		wantHeld(t, moved, 5, 1<<lock, api.OK)
	}
	wantHeld(t, list(acquire(0, 4), release(0, 4), acquire(0, 4)), 0, 16, api.OK)
}

func TestHeldOfThreadThatIsOver(t *testing.T) {
	l := list(fork(0, 1), acquire(1, 3), acquire(0, 0), acquire(1, 1), join(0, 1), join(0, 1), read(0, 1))
	wantHeld(t, l, 1, 10, api.OK)
	wantHeld(t, l, 0, 1, api.OK)
}

func TestHeldErrors(t *testing.T) {
	for _, test := range invalid() {
		wantCheck(t, test.l, test.at, test.want)
		for thread := range 6 {
			wantHeld(t, test.l, thread, 0, test.want)
		}
		for _, thread := range badThreads {
			wantHeld(t, test.l, thread, 0, test.want)
		}
	}
	for _, thread := range badThreads {
		wantHeld(t, nil, thread, 0, api.ErrArg)
		wantHeld(t, list(acquire(0, 1)), thread, 0, api.ErrArg)
	}
}

func TestThreads(t *testing.T) {
	wantThreads(t, nil, []int{0}, api.OK)
	wantThreads(t, list(), []int{0}, api.OK)
	wantThreads(t, list(read(0, 5), acquire(0, 4), show(0, 3)), []int{0}, api.OK)
	for thread := 1; thread < 6; thread++ {
		wantThreads(t, list(fork(0, thread)), []int{0, thread}, api.OK)
		wantThreads(t, list(fork(0, thread), join(0, thread)), []int{0, thread}, api.OK)
		wantThreads(t, list(fork(0, thread), join(thread, 0)), []int{0, thread}, api.OK)
	}
	wantThreads(t, list(fork(0, 5), fork(5, 2), fork(2, 4), join(0, 2), join(0, 2)), []int{0, 2, 4, 5}, api.OK)
	wantThreads(t, list(fork(0, 5), fork(0, 4), fork(0, 3), fork(0, 2), fork(0, 1)), []int{0, 1, 2, 3, 4, 5}, api.OK)
}

func TestThreadsErrors(t *testing.T) {
	for _, test := range invalid() {
		wantThreads(t, test.l, nil, test.want)
	}
}

// P1 and P2

func TestNoArgumentsPanic(t *testing.T) {
	defer func() {
		if p := recover(); p != nil {
			t.Errorf("panic: %v", p)
		}
	}()
	numbers := []int{math.MinInt, -1, 0, 1, 3, 5, 6, 8, 9, 63, 64, 1 << 32, math.MaxInt}
	for _, kind := range append([]int{2, 4, 7}, numbers...) {
		for _, thread := range numbers {
			for _, obj := range numbers {
				l := list(fork(0, 1), api.Event{Kind: kind, Thread: thread, Obj: obj})
				trace.Check(l)
				trace.Held(l, obj)
				trace.Threads(l)
			}
		}
	}
}

func TestArgumentsAreNotModified(t *testing.T) {
	unused := acquire(1, 4)
	l := append(list(fork(0, 5), acquire(5, 2), read(5, 1), join(0, 5)), slices.Repeat(list(unused), 90)...)
	want := slices.Clone(l)
	for _, n := range []int{0, 2, 4, len(l)} {
		trace.Check(l[:n])
		trace.Held(l[:n], 5)
		trace.Threads(l[:n])
		if !slices.Equal(l, want) {
			t.Fatalf("modified: %v", l)
		}
	}
}

func TestThreadsAreNewlyAllocated(t *testing.T) {
	l := list(fork(0, 5), fork(0, 2))
	first, _ := trace.Threads(l)
	second, _ := trace.Threads(l)
	clear(first[:cap(first)])
	if !slices.Equal(second, []int{0, 2, 5}) {
		t.Errorf("changed with another result: %v", second)
	}
	wantThreads(t, l, []int{0, 2, 5}, api.OK)
	wantCheck(t, l, 0, api.OK)
}

// Calls at the same time, and after other ones, show a state that is kept between calls.
func TestResultsDependOnlyOnArguments(t *testing.T) {
	l := list(fork(0, 3), acquire(3, 1), acquire(0, 4), join(0, 3))
	var group sync.WaitGroup
	for range 4 {
		group.Go(func() {
			for range 100 {
				for _, test := range invalid() {
					wantCheck(t, test.l, test.at, test.want)
				}
				wantCheck(t, l, 0, api.OK)
				wantHeld(t, l, 3, 2, api.OK)
				wantThreads(t, l, []int{0, 3}, api.OK)
				wantThreads(t, nil, []int{0}, api.OK)
			}
		})
	}
	group.Wait()
}
