package board_test

import (
	"slices"
	"testing"

	"deadheat/api"
	"deadheat/board"
	"deadheat/cases"
)

// P1: whatever the events are, there is no panic, and those that are no events are
// rejected.
func TestOddEvents(t *testing.T) {
	for l := range cases.Odd() {
		wantChecked(t, l)
	}
}

// P2: results share no memory with each other or with the board.

func TestResultsAreNewlyAllocated(t *testing.T) {
	for n := range 81 {
		if n > 0 && n < 4 {
			continue // cases.Long returns at least 4 events.
		}
		b := boardOf(t, cases.Long(max(n, 4), n)[:n])
		if cases.SharesMemory(b.Trace) || cases.SharesMemory(b.Flags) {
			t.Errorf("%d events: results share memory", n)
		}
	}
}

// What somebody writes behind a result does not come into the trace, and what is told
// later does not come into the result.
func TestMemoryBehindResults(t *testing.T) {
	l := cases.Long(80, 2)
	mine := api.Event{Kind: api.Write, Obj: 7}
	b := board.New()
	for i, e := range l {
		before := b.Trace()
		longer := append(before, mine)
		wantTell(t, b, e, i, api.OK)
		wantTrace(t, b, l[:i+1])
		if !slices.Equal(before, l[:i]) || longer[i] != mine {
			t.Errorf("the result before event %d became %v, with %v behind it", i, before, longer[i])
		}
		clear(longer[:cap(longer)])
		wantTrace(t, b, l[:i+1])
	}
}

// P2: a result depends only on what the board was told.
func TestBoardsOfSeveralGoroutines(t *testing.T) {
	l := cases.Long(80, 6)
	first := boardOf(t, l)
	flags := first.Flags()
	cases.Together(func() {
		b := boardOf(t, l)
		wantTrace(t, b, l)
		wantFlags(t, b, flags)
		wantTell(t, b, l[0], 0, api.ErrLarge)
	})
}
