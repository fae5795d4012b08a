package every

import (
	"slices"

	"deadheat/api"
	"deadheat/prog"
	"deadheat/swap"
)

// maxTotal is how many operations all threads of a program may have together.
const maxTotal = 10

// execution is what some picks, each of which has an effect, come to.
type execution struct {
	picks  []int
	end    api.End
	events []api.Event
}

// isOver reports whether no thread can go on.
func (x execution) isOver() bool {
	return x.end.Done || x.end.Stuck
}

// state is what two executions share if all that can follow is the same for both: how
// they end, and which races they have. Equivalent traces do not differ in that, but not
// all operations are in a trace.
type state struct {
	done  [api.MaxThreads]int // how many of its operations each thread has executed
	least [maxTotal]api.Event // the least of the equivalent traces
}

// reached returns the state in which an execution ends.
func (x execution) reached() state {
	var s state
	for _, thread := range x.picks {
		s.done[thread]++
	}
	least, _ := swap.Least(x.events) // No error: the events of an execution are a trace.
	copy(s.least[:], least)
	return s
}

// explore calls visit for executions of a program, in lexicographic order of their
// picks: the first one of each state. Where visit returns false, those that go on from
// there are left out.
func explore(p [][]api.Op, visit func(execution) bool) api.Errno {
	if errno := check(p); errno != api.OK {
		return errno
	}
	explorer{p, map[state]bool{}, visit}.goOn(nil)
	return api.OK
}

func check(p [][]api.Op) api.Errno {
	if errno := prog.Check(p); errno != api.OK {
		return errno
	}
	if len(slices.Concat(p...)) > maxTotal {
		return api.ErrLarge
	}
	return api.OK
}

type explorer struct {
	program [][]api.Op
	visited map[state]bool
	visit   func(execution) bool
}

// goOn explores the executions that begin with some picks.
func (e explorer) goOn(picks []int) {
	// No errors: the program was checked, and there are no more picks than operations.
	end, events, _ := prog.Run(e.program, picks)
	x := execution{picks, end, events}
	s := x.reached()
	if e.visited[s] {
		return
	}
	e.visited[s] = true
	if !e.visit(x) {
		return
	}
	able, _ := prog.Able(e.program, picks)
	for _, thread := range able {
		e.goOn(append(picks[:len(picks):len(picks)], thread))
	}
}
