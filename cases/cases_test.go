package cases_test

import (
	"slices"
	"testing"

	"deadheat/api"
	"deadheat/cases"
	"deadheat/trace"
)

// A test that ranges over no traces, or over wrong ones, would pass without a word.

func TestShort(t *testing.T) {
	lengths := map[int]int{}
	for l := range cases.Short() {
		lengths[len(l)]++
		if at, errno := trace.Check(l); errno != api.OK {
			t.Errorf("Check(%v) = %d, %d", l, at, errno)
		}
	}
	for n := 1; n <= 6; n++ {
		if lengths[n] == 0 {
			t.Errorf("no traces of %d events: %v", n, lengths)
		}
	}
}

func TestShortStops(t *testing.T) {
	for limit := 1; limit <= 10000; limit *= 10 {
		var n int
		for range cases.Short() {
			if n++; n == limit {
				break
			}
		}
		if n != limit {
			t.Errorf("%d traces, want %d", n, limit)
		}
	}
}

func TestLong(t *testing.T) {
	kinds := map[int]bool{}
	for seed := range 60 {
		for _, n := range []int{4, 40, 80} {
			l := cases.Long(n, seed)
			if at, errno := trace.Check(l); len(l) != n || errno != api.OK {
				t.Errorf("Long(%d, %d) = %v, Check %d, %d", n, seed, l, at, errno)
			}
			for _, e := range l {
				kinds[e.Kind] = true
			}
		}
	}
	if len(kinds) != 8 || slices.Equal(cases.Long(80, 1), cases.Long(80, 2)) {
		t.Errorf("kinds %v", kinds)
	}
}

func TestInvalid(t *testing.T) {
	lists := cases.Invalid()
	for _, want := range []api.Errno{api.ErrArg, api.ErrLarge, api.ErrNone, api.ErrTwice, api.ErrHeld, api.ErrFree, api.ErrState} {
		if at, errno := trace.Check(lists[want]); errno != want {
			t.Errorf("Check(%v) = %d, %d, want %d", lists[want], at, errno, want)
		}
	}
}

func TestEventsPanicsWithoutEvent(t *testing.T) {
	defer func() {
		if recover() == nil {
			t.Error("no panic")
		}
	}()
	cases.Events("t0 read x0; t0 read m0")
}
