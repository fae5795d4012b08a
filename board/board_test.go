package board_test

import (
	"slices"
	"testing"

	"deadheat/api"
	"deadheat/board"
	"deadheat/cases"
	"deadheat/fast"
	"deadheat/trace"
)

func wantTell(t *testing.T, b *board.Board, e api.Event, want int, wantErrno api.Errno) {
	t.Helper()
	if at, errno := b.Tell(e); at != want || errno != wantErrno {
		t.Errorf("Tell(%v) = %d, %d, want %d, %d", e, at, errno, want, wantErrno)
	}
}

func wantTrace(t *testing.T, b *board.Board, want []api.Event) {
	t.Helper()
	if got := b.Trace(); !slices.Equal(got, want) {
		t.Errorf("Trace() = %v, want %v", got, want)
	}
}

func wantFlags(t *testing.T, b *board.Board, want []api.Flag) {
	t.Helper()
	if got := b.Flags(); !slices.Equal(got, want) {
		t.Errorf("%v: Flags() = %v, want %v", b.Trace(), got, want)
	}
}

// boardOf returns a board to which the events of a trace were told.
func boardOf(t *testing.T, l []api.Event) *board.Board {
	t.Helper()
	b := board.New()
	for i, e := range l {
		wantTell(t, b, e, i, api.OK)
	}
	return b
}

// wantChecked tells a board events, of which it is to reject those that trace.Check
// does not accept behind the ones accepted before.
func wantChecked(t *testing.T, l []api.Event) {
	t.Helper()
	b := board.New()
	var accepted []api.Event
	for _, e := range l {
		longer := append(accepted[:len(accepted):len(accepted)], e)
		if _, errno := trace.Check(longer); errno != api.OK {
			wantTell(t, b, e, 0, errno)
		} else {
			wantTell(t, b, e, len(accepted), api.OK)
			accepted = longer
		}
	}
	wantTrace(t, b, accepted)
	flags, _ := fast.Run(accepted)
	wantFlags(t, b, flags)
}

// P34: Tell and Trace

func TestNewBoard(t *testing.T) {
	b := board.New()
	wantTrace(t, b, nil)
	wantFlags(t, b, nil)
	// Only thread 0 has begun.
	wantTell(t, b, api.Event{Kind: api.Read, Thread: 1}, 0, api.ErrState)
	wantTell(t, b, api.Event{Kind: api.Read}, 0, api.OK)
}

func TestIndices(t *testing.T) {
	l := cases.Events("t0 fork t5; t5 acquire m4; t0 write x7; t5 show v3; t0 see v3; t5 release m4; t0 join t5; t0 read x7")
	b := board.New()
	for i, e := range l {
		wantTell(t, b, e, i, api.OK)
		wantTrace(t, b, l[:i+1])
	}
}

// Events that are alike are different events.
func TestSameEventAgain(t *testing.T) {
	l := slices.Repeat(cases.Events("t0 write x0"), 80)
	wantTrace(t, boardOf(t, l), l)
}

// Each event is looked at behind all that were told before, and accepted ones only.
func TestErrorsChange(t *testing.T) {
	b := board.New()
	for _, step := range []struct {
		event string
		at    int
		errno api.Errno
	}{
		{"t0 join t1", 0, api.ErrNone},
		{"t0 fork t0", 0, api.ErrTwice},
		{"t1 acquire m2", 0, api.ErrState},
		{"t0 release m2", 0, api.ErrFree},
		{"t0 fork t1", 0, api.OK},
		{"t0 fork t1", 0, api.ErrTwice},
		{"t1 acquire m2", 1, api.OK},
		{"t0 acquire m2", 0, api.ErrHeld},
		{"t0 release m2", 0, api.ErrFree},
		{"t1 release m2", 2, api.OK},
		{"t1 release m2", 0, api.ErrFree},
		{"t0 acquire m2", 3, api.OK},
		{"t1 join t1", 0, api.ErrNone},
		{"t1 join t0", 4, api.OK},
		{"t0 release m2", 0, api.ErrState},
		{"t1 acquire m2", 0, api.ErrHeld},
		{"t1 join t0", 5, api.OK},
	} {
		wantTell(t, b, cases.Events(step.event)[0], step.at, step.errno)
	}
	wantTrace(t, b, cases.Events("t0 fork t1; t1 acquire m2; t1 release m2; t0 acquire m2; t1 join t0; t1 join t0"))
}

// The chapter's example, with each error of an event.
func TestRejectedEventIsNotContained(t *testing.T) {
	next := api.Event{Kind: api.Show, Obj: 3}
	for errno, l := range cases.Invalid() {
		if errno == api.ErrLarge {
			continue
		}
		last := len(l) - 1
		b := boardOf(t, l[:last])
		for range 3 {
			wantTell(t, b, l[last], 0, errno)
			wantTrace(t, b, l[:last])
		}
		wantTell(t, b, next, last, api.OK)
		wantTrace(t, b, append(l[:last:last], next))
	}
}

// ErrLarge comes first: a full board rejects whatever it is told.
func TestFullBoard(t *testing.T) {
	l := cases.Long(80, 1)
	b := boardOf(t, l[:79])
	wantTell(t, b, api.Event{Kind: api.Read, Obj: 8}, 0, api.ErrArg)
	wantTell(t, b, api.Event{Kind: api.Join}, 0, api.ErrNone)
	wantTell(t, b, l[79], 79, api.OK)
	for odd := range cases.Odd() {
		wantTell(t, b, odd[len(odd)-1], 0, api.ErrLarge)
	}
	for _, e := range l {
		wantTell(t, b, e, 0, api.ErrLarge)
	}
	wantTrace(t, b, l)
	flags, _ := fast.Run(l)
	wantFlags(t, b, flags)
}

func TestAllShortTraces(t *testing.T) {
	for l := range cases.Short() {
		wantChecked(t, l)
	}
}

func TestManyRejectedEvents(t *testing.T) {
	for seed := range 300 {
		below := cases.Chooser(seed)
		var l []api.Event
		for range 300 {
			l = append(l, anEvent(below))
		}
		wantChecked(t, l)
	}
}

// anEvent returns an event of one of the threads 0 to 2, which a trace may accept or
// not. Most Joins become Writes: with more of them only one thread would go on.
func anEvent(below func(int) int) api.Event {
	e := api.Event{Kind: below(9) + 1, Thread: below(3), Obj: below(5)}
	if e.Kind == api.Join && below(8) > 0 {
		e.Kind = api.Write
	}
	return e
}

func TestTwoBoards(t *testing.T) {
	l := cases.Events("t0 fork t1; t0 write x0; t1 write x0")
	b, other := boardOf(t, l), board.New()
	wantTrace(t, other, nil)
	wantTell(t, other, l[0], 0, api.OK)
	wantTell(t, other, l[2], 1, api.OK)
	wantTell(t, b, l[1], 3, api.OK)
	wantTrace(t, b, append(l[:3:3], l[1]))
	wantTrace(t, other, []api.Event{l[0], l[2]})
	wantFlags(t, b, cases.Flags("2 x0 ww; 3 x0 ww"))
	wantFlags(t, other, nil)
}

// P34: Flags

// The flags were found by following P18, P19 and P20.
func TestFlagsGrow(t *testing.T) {
	b := board.New()
	for _, step := range []struct{ event, flags string }{
		{"t0 fork t1", ""},
		{"t0 write x5", ""},
		{"t1 write x5", "2 x5 ww"},
		{"t1 write x5", "2 x5 ww"}, // in the epoch of the last Write: nothing happens
		{"t0 show v1", "2 x5 ww"},
		{"t0 read x5", "2 x5 ww; 5 x5 wr"},
		{"t1 read x0", "2 x5 ww; 5 x5 wr"},
		{"t0 write x0", "2 x5 ww; 5 x5 wr; 7 x0 rw"},
		{"t0 join t1", "2 x5 ww; 5 x5 wr; 7 x0 rw"},
		{"t0 write x5", "2 x5 ww; 5 x5 wr; 7 x0 rw"},
	} {
		b.Tell(cases.Events(step.event)[0])
		wantFlags(t, b, cases.Flags(step.flags))
		b.Tell(api.Event{Kind: api.Release}) // a rejected event changes nothing
		wantFlags(t, b, cases.Flags(step.flags))
	}
}

// Where the result of fast.Run is not that of full.Run or race.Seconds, it is the former.
func TestFlagsAreThoseOfFast(t *testing.T) {
	b := boardOf(t, cases.Events("t0 fork t1; t0 write x0; t1 read x0; t1 read x0; t0 read x0"))
	wantFlags(t, b, cases.Flags("2 x0 wr"))
}

func TestFlagsOfLongTraces(t *testing.T) {
	for seed := range 100 {
		b := board.New()
		l := cases.Long(80, seed)
		for i, e := range l {
			b.Tell(e)
			want, _ := fast.Run(l[:i+1])
			wantFlags(t, b, want)
		}
	}
}
