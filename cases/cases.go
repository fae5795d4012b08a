// Package cases has traces and checks for the tests of the other packages.
package cases

import (
	"iter"
	"math"
	"slices"
	"strconv"
	"strings"
	"sync"

	"deadheat/api"
	"deadheat/text"
	"deadheat/trace"
)

// Events returns the events with the given texts, separated by semicolons; they
// need not be a trace. It panics if there is no such event, as a test is wrong then.
func Events(s string) []api.Event {
	var l []api.Event
	for _, line := range strings.Split(s, "; ") {
		e, errno := text.Event(line)
		if errno != api.OK {
			panic("no event: " + line)
		}
		l = append(l, e)
	}
	return l
}

// Flags returns the flags that are written like "2 x0 ww; 5 x3 rw"; there is none in
// an empty text. It panics if one is written in another way, as a test is wrong then.
func Flags(s string) []api.Flag {
	if s == "" {
		return nil
	}
	var l []api.Flag
	for _, part := range strings.Split(s, "; ") {
		l = append(l, flag(part))
	}
	return l
}

func flag(s string) api.Flag {
	kinds := map[string]int{"ww": api.WriteWrite, "wr": api.WriteRead, "rw": api.ReadWrite}
	at, rest, _ := strings.Cut(s, " x")
	variable, kind, _ := strings.Cut(rest, " ")
	index, errIndex := strconv.Atoi(at)
	x, errVar := strconv.Atoi(variable)
	if errIndex != nil || errVar != nil || kinds[kind] == 0 {
		panic("no flag: " + s)
	}
	return api.Flag{At: index, Var: x, Kind: kinds[kind]}
}

// Pairs returns the pairs that are written like "0-1 0-2". It panics if one is written
// in another way, as a test is wrong then.
func Pairs(s string) []api.Pair {
	var l []api.Pair
	for _, word := range strings.Fields(s) {
		first, second, _ := strings.Cut(word, "-")
		a, errA := strconv.Atoi(first)
		b, errB := strconv.Atoi(second)
		if errA != nil || errB != nil {
			panic("no pair: " + word)
		}
		l = append(l, api.Pair{A: a, B: b})
	}
	return l
}

// Program returns the program that is written like "fork t1; add -4; store x0 | see v0":
// a bar is between two threads, and a thread may have no operations. It panics if one
// is written in another way, as a test is wrong then.
func Program(s string) [][]api.Op {
	var p [][]api.Op
	for _, thread := range strings.Split(s, "|") {
		var ops []api.Op
		if thread = strings.TrimSpace(thread); thread != "" {
			for _, part := range strings.Split(thread, "; ") {
				ops = append(ops, operation(part))
			}
		}
		p = append(p, ops)
	}
	return p
}

func operation(s string) api.Op {
	kinds := map[string]int{
		"load x": api.OLoad, "store x": api.OStore, "add ": api.OAdd, "lock m": api.OLock, "unlock m": api.OUnlock,
		"fork t": api.OFork, "join t": api.OJoin, "see v": api.OSee, "show v": api.OShow,
	}
	at := max(0, strings.IndexAny(s, "-0123456789"))
	kind := kinds[s[:at]]
	n, err := strconv.Atoi(s[at:])
	if kind == 0 || err != nil {
		panic("no operation: " + s)
	}
	if kind == api.OAdd {
		return api.Op{Kind: kind, N: n}
	}
	return api.Op{Kind: kind, Obj: n}
}

// Invalid returns lists with each error of trace.Check.
func Invalid() map[api.Errno][]api.Event {
	return map[api.Errno][]api.Event{
		api.ErrLarge: slices.Repeat(Events("t0 read x0"), 81),
		api.ErrArg:   append(Events("t0 read x0"), api.Event{Kind: api.Write, Obj: 8}),
		api.ErrState: Events("t0 fork t1; t2 read x0"),
		api.ErrHeld:  Events("t0 acquire m2; t0 acquire m2"),
		api.ErrFree:  Events("t0 acquire m2; t0 release m1"),
		api.ErrTwice: Events("t0 fork t1; t0 fork t1"),
		api.ErrNone:  Events("t0 read x0; t0 join t0"),
	}
}

// Odd yields lists whose last event is made of numbers in range and out of it, and
// lists of too many events. Most of them are no traces.
func Odd() iter.Seq[[]api.Event] {
	return func(yield func([]api.Event) bool) {
		start := Events("t0 fork t1; t0 write x0")
		for _, e := range oddEvents() {
			if !yield(append(start[:2:2], e)) {
				return
			}
		}
		for _, n := range []int{82, 128, 1000} {
			if !yield(slices.Repeat(start[1:], n)) {
				return
			}
		}
	}
}

func oddEvents() []api.Event {
	numbers := []int{math.MinInt, -1, 0, 1, 2, 3, 4, 5, 6, 7, 8, 9, 63, 64, 80, 1 << 32, math.MaxInt}
	var l []api.Event
	for _, kind := range numbers {
		for _, thread := range numbers {
			for _, obj := range numbers {
				l = append(l, api.Event{Kind: kind, Thread: thread, Obj: obj})
			}
		}
	}
	return l
}

// IsChanged reports whether a function changes the events that it is called with,
// or those behind them in the same memory.
func IsChanged(call func(l []api.Event)) bool {
	l := append(Long(80, 3), Long(40, 4)...)
	want := slices.Clone(l)
	for _, n := range []int{0, 3, 40, 80, 120} {
		call(l[:n])
	}
	return !slices.Equal(l, want)
}

// IsProgramChanged reports whether a function changes the program that it is called
// with, which is like p, or the threads behind it or the operations behind those of a
// thread in the same memory.
func IsProgramChanged(p [][]api.Op, call func(p [][]api.Op)) bool {
	behind := Program("store x1; lock m1; add 3")[0]
	var all [][]api.Op
	for _, ops := range p {
		all = append(all, slices.Concat(ops, behind))
	}
	all = append(all, behind, slices.Clone(behind))
	threads := slices.Clone(all)
	for thread, ops := range p {
		threads[thread] = threads[thread][:len(ops)]
	}
	wantThreads, wantAll := Copied(threads), Copied(all)
	call(threads[:len(p)])
	return !AreEqual(threads, wantThreads) || !AreEqual(all, wantAll)
}

// SharesMemory reports whether a function, which is to have the same result each
// time, has another one after an earlier result was overwritten.
func SharesMemory[T comparable](ask func() []T) bool {
	first, second := ask(), ask()
	want := slices.Clone(second)
	clear(first[:cap(first)])
	return !slices.Equal(second, want) || !slices.Equal(ask(), want)
}

// Together calls a function many times, in several goroutines at the same time:
// results of the calls that are not the same show a state that is kept.
func Together(call func()) {
	var group sync.WaitGroup
	for range 4 {
		group.Go(func() {
			for range 20 {
				call()
			}
		})
	}
	group.Wait()
}

// Short yields all traces of some events: those of up to four, and those of up
// to three more after a start with three threads.
func Short() iter.Seq[[]api.Event] {
	return func(yield func([]api.Event) bool) {
		_ = extend(nil, choices(), 4, yield) &&
			extend(Events("t0 fork t2; t0 fork t1; t1 acquire m0"), choices(), 3, yield)
	}
}

// Accesses yields all traces of up to four events after a start with two threads,
// and of up to three more after a Release: accesses of two variables by both
// threads, and events that order them.
func Accesses() iter.Seq[[]api.Event] {
	return func(yield func([]api.Event) bool) {
		_ = extend(Events("t0 fork t1"), accesses(), 4, yield) &&
			extend(Events("t0 fork t1; t0 acquire m0; t0 write x0; t0 read x1; t0 release m0"), accesses(), 3, yield)
	}
}

// Locks yields all traces of up to six events after a start with two threads:
// Acquires and Releases of three locks by both threads.
func Locks() iter.Seq[[]api.Event] {
	return func(yield func([]api.Event) bool) {
		_ = extend(Events("t0 fork t1"), locks(), 6, yield)
	}
}

// extend yields all traces of which l is the start and which have at most so many
// of some events more. It reports whether there is to be another trace.
func extend(l, events []api.Event, more int, yield func([]api.Event) bool) bool {
	if more == 0 {
		return true
	}
	for _, e := range events {
		longer := append(l[:len(l):len(l)], e)
		if _, errno := trace.Check(longer); errno != api.OK {
			continue
		}
		if !yield(longer) || !extend(longer, events, more-1, yield) {
			return false
		}
	}
	return true
}

// choices returns events of which many depend on others.
func choices() []api.Event {
	var l []api.Event
	for thread := range 3 {
		l = append(l, api.Event{Kind: api.Write, Thread: thread, Obj: 1})
		for obj := range 3 {
			l = append(l, api.Event{Kind: api.Fork, Thread: thread, Obj: obj}, api.Event{Kind: api.Join, Thread: thread, Obj: obj})
		}
		for obj := range 2 {
			for _, kind := range []int{api.Acquire, api.Release, api.See, api.Show} {
				l = append(l, api.Event{Kind: kind, Thread: thread, Obj: obj})
			}
		}
	}
	return l
}

// accesses returns the events that Accesses combines.
func accesses() []api.Event {
	var l []api.Event
	for thread := range 2 {
		for obj := range 2 {
			for _, kind := range []int{api.Read, api.Write} {
				l = append(l, api.Event{Kind: kind, Thread: thread, Obj: obj})
			}
		}
		for _, kind := range []int{api.Acquire, api.Release, api.See, api.Show} {
			l = append(l, api.Event{Kind: kind, Thread: thread})
		}
	}
	return append(l, Events("t0 join t1")...)
}

// locks returns the events that Locks combines.
func locks() []api.Event {
	var l []api.Event
	for thread := range 2 {
		for obj := range 3 {
			for _, kind := range []int{api.Acquire, api.Release} {
				l = append(l, api.Event{Kind: kind, Thread: thread, Obj: obj})
			}
		}
	}
	return l
}

// Long returns a trace of n events (at least 4, at most 80) of all kinds, objects
// and threads; which one depends on seed alone.
func Long(n, seed int) []api.Event {
	l := Events("t0 fork t3; t3 fork t1; t0 fork t4; t1 fork t2")
	below := Chooser(seed)
	for len(l) < n {
		e := api.Event{Kind: below(8) + 1, Thread: below(6), Obj: below(8)}
		if e.Kind == api.Join && below(8) > 0 {
			continue // Joins end threads: with more of them only one would go on.
		}
		if _, errno := trace.Check(append(l[:len(l):len(l)], e)); errno == api.OK {
			l = append(l, e)
		}
	}
	return l
}

// Mixed returns a program whose threads have so many operations (at most 12 each, of
// at most 6 threads), of all kinds and objects; which ones depends on seed alone.
func Mixed(seed int, sizes ...int) [][]api.Op {
	below := Chooser(seed)
	var p [][]api.Op
	for thread, size := range sizes {
		var ops []api.Op
		for range size {
			ops = append(ops, mixedOp(below))
		}
		if size > 0 && thread+1 < len(sizes) && below(8) > 0 {
			// Without these, most threads would not begin.
			ops[below(min(2, size))] = api.Op{Kind: api.OFork, Obj: thread + 1}
		}
		p = append(p, ops)
	}
	return p
}

func mixedOp(below func(limit int) int) api.Op {
	limits := [...]int{
		api.OLoad: api.MaxVars, api.OStore: api.MaxVars, api.OAdd: 1, api.OLock: api.MaxLocks, api.OUnlock: api.MaxLocks,
		api.OFork: api.MaxThreads, api.OJoin: api.MaxThreads, api.OSee: api.MaxVols, api.OShow: api.MaxVols,
	}
	kind := below(9) + 1
	for (kind == api.OJoin || kind == api.OLock) && below(3) > 0 {
		kind = below(9) + 1 // With more of those, all threads would soon wait.
	}
	// With low numbers more often, threads share what they use.
	op := api.Op{Kind: kind, Obj: below(below(limits[kind]) + 1)}
	if kind == api.OAdd {
		op.N = below(2*api.MaxNumber+1) - api.MaxNumber
	}
	return op
}

// Lists returns all lists of up to n of some operations.
func Lists(n int, choices []api.Op) [][]api.Op {
	lists := [][]api.Op{nil}
	for begin := 0; len(lists[begin]) < n; begin++ {
		for _, op := range choices {
			lists = append(lists, append(slices.Clone(lists[begin]), op))
		}
	}
	return lists
}

// Copied returns lists that share no memory with other ones, which they equal: the
// threads of a program, or traces.
func Copied[T any](lists [][]T) [][]T {
	var copies [][]T
	for _, l := range lists {
		copies = append(copies, slices.Clone(l))
	}
	return copies
}

// AreEqual reports whether two programs have the same operations, or two lists of
// traces the same events.
func AreEqual[T comparable](p, q [][]T) bool {
	return slices.EqualFunc(p, q, slices.Equal[[]T])
}

// Chooser returns a function that returns numbers below a limit; which ones depends on
// seed alone.
func Chooser(seed int) func(limit int) int {
	state := uint32(seed)
	return func(limit int) int {
		state = state*1664525 + 1013904223
		return int(state>>16) % limit
	}
}
