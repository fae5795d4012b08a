package board

import (
	"runtime"
	"sync"
	"sync/atomic"
	"testing"

	"deadheat/api"
)

// These tests look at the mutex: a result tells only by chance that a method goes on
// without it.

// calls returns a call of each method, and of Tell some that reject their events.
func calls() map[string]func(b *Board) {
	return map[string]func(b *Board){
		"Tell":           func(b *Board) { b.Tell(api.Event{Kind: api.Read}) },
		"Tell, an error": func(b *Board) { b.Tell(api.Event{Kind: api.Release}) },
		"Tell, no event": func(b *Board) { b.Tell(api.Event{}) },
		"Trace":          func(b *Board) { b.Trace() },
		"Flags":          func(b *Board) { b.Flags() },
	}
}

// P1: a mutex that a method leaves locked would make the next one wait for ever. The
// board becomes full here.
func TestMethodsUnlock(t *testing.T) {
	b := New()
	for range api.MaxEvents + 1 {
		for name, call := range calls() {
			if call(b); !b.mutex.TryLock() {
				t.Fatalf("%s: still locked", name)
			}
			b.mutex.Unlock()
		}
	}
}

// P34: while one goroutine uses the trace, others wait.
func TestMethodsWait(t *testing.T) {
	for name, call := range calls() {
		var over atomic.Bool
		var group sync.WaitGroup
		b := New()
		b.mutex.Lock()
		group.Go(func() {
			call(b)
			over.Store(true)
		})
		for range 10000 {
			runtime.Gosched()
		}
		if over.Load() {
			t.Errorf("%s: did not wait", name)
		}
		b.mutex.Unlock()
		group.Wait()
	}
}
