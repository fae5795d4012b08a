// Package clock compares and combines vector clocks: see doc/01-clock.md.
package clock

import "deadheat/api"

// Join returns the elementwise maximum of two clocks.
func Join(a, b api.Clock) api.Clock {
	var joined api.Clock
	for t := range joined {
		joined[t] = largest(a[t], b[t])
	}
	return joined
}

// Meet returns the elementwise minimum of two clocks.
func Meet(a, b api.Clock) api.Clock {
	var met api.Clock
	for t := range met {
		met[t] = smallest(a[t], b[t])
	}
	return met
}

// Within reports whether every number of a is at most that of b.
func Within(a, b api.Clock) bool {
	for t := range a {
		if a[t] > b[t] {
			return false
		}
	}
	return true
}

// Compare returns api.Same, api.Before, api.After or api.Beside: how a lies to b.
func Compare(a, b api.Clock) int {
	switch {
	case a == b:
		return api.Same
	case Within(a, b):
		return api.Before
	case Within(b, a):
		return api.After
	}
	return api.Beside
}

// Tick returns the clock with the number of thread t incremented.
func Tick(c api.Clock, t int) (api.Clock, api.Errno) {
	if !isThread(t) {
		return api.Clock{}, api.ErrArg
	}
	if c[t] >= api.MaxCount {
		return api.Clock{}, api.ErrLarge
	}
	c[t]++
	return c, api.OK
}

// Of returns the epoch of thread t with its number in c.
func Of(c api.Clock, t int) (api.Epoch, api.Errno) {
	if !isThread(t) {
		return api.Epoch{}, api.ErrArg
	}
	return api.Epoch{Thread: t, N: c[t]}, api.OK
}

// Seen reports whether e is the epoch of a thread whose number in c has reached it.
func Seen(e api.Epoch, c api.Clock) bool {
	return isThread(e.Thread) && e.N <= c[e.Thread]
}

func isThread(t int) bool {
	return 0 <= t && t < api.MaxThreads
}

// The first number is a parameter of its own, so that there is always one to choose.
func largest(first int, others ...int) int {
	for _, n := range others {
		if n > first {
			first = n
		}
	}
	return first
}

func smallest(first int, others ...int) int {
	for _, n := range others {
		if n < first {
			first = n
		}
	}
	return first
}
