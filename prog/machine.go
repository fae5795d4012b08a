package prog

import "deadheat/api"

// nobody has a lock that is free.
const nobody = -1

// silent stands for the kind of event of what yields none.
const silent = 0

// machine is a program in execution.
type machine struct {
	program [][]api.Op
	begun   [api.MaxThreads]bool
	done    [api.MaxThreads]int // how many of its operations each thread has executed
	owners  [api.MaxLocks]int   // the thread that has each lock, or nobody
	end     api.End             // without Done and Stuck
	events  []api.Event
}

// start returns the machine that has executed nothing of a program without an error.
func start(p [][]api.Op) *machine {
	m := &machine{program: p}
	m.begun[0] = true
	for lock := range m.owners {
		m.owners[lock] = nobody
	}
	return m
}

// outcome returns the end that there is if the machine stops here.
func (m *machine) outcome() api.End {
	isOver, isWaiting := true, true
	for thread := range m.program {
		isOver = isOver && !m.hasMore(thread)
		isWaiting = isWaiting && !m.canGoOn(thread)
	}
	end := m.end
	end.Done = isOver
	end.Stuck = isWaiting && !isOver
	return end
}

// hasMore reports whether a thread has begun and has an operation left.
func (m *machine) hasMore(thread int) bool {
	return m.begun[thread] && m.done[thread] < len(m.program[thread])
}

// canGoOn reports whether a thread can execute an operation. The number may be that of
// no thread.
func (m *machine) canGoOn(thread int) bool {
	return 0 <= thread && thread < len(m.program) && m.hasMore(thread) && m.isEnabled(m.next(thread))
}

// next returns the first operation that a thread has left.
func (m *machine) next(thread int) api.Op {
	return m.program[thread][m.done[thread]]
}

// isEnabled does not ask whose operation it is: a thread that joins itself has at least
// this operation left.
func (m *machine) isEnabled(op api.Op) bool {
	switch op.Kind {
	case api.OLock:
		return m.owners[op.Obj] == nobody
	case api.OJoin:
		return m.begun[op.Obj] && !m.hasMore(op.Obj)
	}
	return true
}

// goOn executes the next operation of a thread that can go on.
func (m *machine) goOn(thread int) {
	op := m.next(thread)
	m.done[thread]++
	if kind := m.execute(thread, op); kind != silent {
		m.events = append(m.events, api.Event{Kind: kind, Thread: thread, Obj: op.Obj})
	}
}

// execute has the effect of an enabled operation of a thread, and returns the kind of
// its event, or silent.
func (m *machine) execute(thread int, op api.Op) int {
	register := &m.end.Has[thread]
	switch op.Kind {
	case api.OLoad:
		*register = m.end.Mem[op.Obj]
		return api.Read
	case api.OStore:
		m.end.Mem[op.Obj] = *register
		return api.Write
	case api.OAdd:
		*register += op.N
	case api.OLock:
		m.owners[op.Obj] = thread
		return api.Acquire
	case api.OUnlock:
		if m.owners[op.Obj] == thread {
			m.owners[op.Obj] = nobody
			return api.Release
		}
	case api.OFork:
		if op.Obj < len(m.program) && !m.begun[op.Obj] {
			m.begun[op.Obj] = true
			return api.Fork
		}
	case api.OJoin:
		return api.Join
	case api.OSee:
		*register = m.end.Vols[op.Obj]
		return api.See
	case api.OShow:
		m.end.Vols[op.Obj] = *register
		return api.Show
	}
	return silent
}
