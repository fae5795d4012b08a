package text_test

import (
	"math"
	"slices"
	"strconv"
	"strings"
	"sync"
	"testing"

	"deadheat/api"
	"deadheat/text"
)

// The words, the letters and how many objects there are, for each kind (index 0: no kind).
var (
	words   = []string{"", "read", "write", "acquire", "release", "fork", "join", "see", "show"}
	letters = []string{"", "x", "x", "m", "m", "t", "t", "v", "v"}
	limits  = []int{0, 8, 8, 5, 5, 6, 6, 4, 4}
)

var badKinds = []int{math.MinInt, -1, 0, 9, 10, 1<<8 + 1, 1<<32 + 1, math.MaxInt}

var badThreads = []int{math.MinInt, -7, -1, 6, 7, 9, 10, 1 << 32, math.MaxInt}

func read(t, x int) api.Event    { return api.Event{Kind: 1, Thread: t, Obj: x} }
func write(t, x int) api.Event   { return api.Event{Kind: 2, Thread: t, Obj: x} }
func acquire(t, m int) api.Event { return api.Event{Kind: 3, Thread: t, Obj: m} }
func release(t, m int) api.Event { return api.Event{Kind: 4, Thread: t, Obj: m} }
func fork(t, o int) api.Event    { return api.Event{Kind: 5, Thread: t, Obj: o} }
func join(t, o int) api.Event    { return api.Event{Kind: 6, Thread: t, Obj: o} }
func see(t, v int) api.Event     { return api.Event{Kind: 7, Thread: t, Obj: v} }
func show(t, v int) api.Event    { return api.Event{Kind: 8, Thread: t, Obj: v} }

func list(events ...api.Event) []api.Event { return events }

func reads(n int) []api.Event {
	return slices.Repeat(list(read(0, 0)), n)
}

// written returns the text that an event would have, in range or not.
func written(e api.Event) string {
	return "t" + strconv.Itoa(e.Thread) + " " + words[e.Kind] + " " + letters[e.Kind] + strconv.Itoa(e.Obj)
}

// allEvents returns every event that is in range.
func allEvents() []api.Event {
	var events []api.Event
	for thread := range 6 {
		for kind := 1; kind <= 8; kind++ {
			for obj := range limits[kind] {
				events = append(events, api.Event{Kind: kind, Thread: thread, Obj: obj})
			}
		}
	}
	return events
}

// allTexts returns the event with each text.
func allTexts() map[string]api.Event {
	texts := map[string]api.Event{}
	for _, e := range allEvents() {
		texts[written(e)] = e
	}
	return texts
}

// outOfRange returns events that are out of range in one way each.
func outOfRange() []api.Event {
	var events []api.Event
	for kind := 1; kind <= 8; kind++ {
		for _, obj := range []int{math.MinInt, -1, limits[kind], limits[kind] + 1, 9, 10, 1 << 32, math.MaxInt} {
			events = append(events, api.Event{Kind: kind, Obj: obj})
		}
		for _, thread := range badThreads {
			events = append(events, api.Event{Kind: kind, Thread: thread})
		}
	}
	for _, kind := range badKinds {
		events = append(events, api.Event{Kind: kind})
	}
	return events
}

func wantLine(t *testing.T, e api.Event, want string, wantErrno api.Errno) {
	t.Helper()
	if got, errno := text.Line(e); got != want || errno != wantErrno {
		t.Errorf("Line(%v) = %q, %d, want %q, %d", e, got, errno, want, wantErrno)
	}
}

func wantEvent(t *testing.T, s string, want api.Event, wantErrno api.Errno) {
	t.Helper()
	if got, errno := text.Event(s); got != want || errno != wantErrno {
		t.Errorf("Event(%q) = %v, %d, want %v, %d", s, got, errno, want, wantErrno)
	}
}

func wantNoEvent(t *testing.T, s string) {
	t.Helper()
	wantEvent(t, s, api.Event{}, api.ErrSyntax)
}

func wantText(t *testing.T, l []api.Event, want string, wantErrno api.Errno) {
	t.Helper()
	if got, errno := text.Text(l); got != want || errno != wantErrno {
		t.Errorf("Text(%v) = %q, %d, want %q, %d", l, got, errno, want, wantErrno)
	}
}

func wantRead(t *testing.T, s string, want []api.Event) {
	t.Helper()
	if got, line, errno := text.Read(s); !slices.Equal(got, want) || line != 0 || errno != api.OK {
		t.Errorf("Read(%q) = %v, %d, %d, want %v, 0, 0", s, got, line, errno, want)
	}
}

func wantReadError(t *testing.T, s string, wantLine int, want api.Errno) {
	t.Helper()
	if got, line, errno := text.Read(s); len(got) != 0 || line != wantLine || errno != want {
		t.Errorf("Read(%q) = %v, %d, %d, want none, %d, %d", s, got, line, errno, wantLine, want)
	}
}

// P8: Line

func TestLine(t *testing.T) {
	wantLine(t, read(0, 7), "t0 read x7", api.OK)
	wantLine(t, write(5, 0), "t5 write x0", api.OK)
	wantLine(t, acquire(1, 4), "t1 acquire m4", api.OK)
	wantLine(t, release(4, 1), "t4 release m1", api.OK)
	wantLine(t, fork(0, 1), "t0 fork t1", api.OK)
	wantLine(t, join(2, 5), "t2 join t5", api.OK)
	wantLine(t, see(3, 2), "t3 see v2", api.OK)
	wantLine(t, show(5, 3), "t5 show v3", api.OK)
	for _, e := range allEvents() {
		wantLine(t, e, written(e), api.OK)
	}
}

// An event that no trace begins with, or has at all, has a text nevertheless.
func TestLineLooksAtRangesOnly(t *testing.T) {
	wantLine(t, fork(0, 0), "t0 fork t0", api.OK)
	wantLine(t, join(0, 0), "t0 join t0", api.OK)
	wantLine(t, join(0, 3), "t0 join t3", api.OK)
	wantLine(t, release(0, 0), "t0 release m0", api.OK)
	wantLine(t, fork(3, 3), "t3 fork t3", api.OK)
	wantEvent(t, "t0 fork t0", fork(0, 0), api.OK)
	wantEvent(t, "t3 join t3", join(3, 3), api.OK)
	wantEvent(t, "t0 release m0", release(0, 0), api.OK)
}

func TestLineErrors(t *testing.T) {
	for _, e := range outOfRange() {
		wantLine(t, e, "", api.ErrArg)
	}
	wantLine(t, api.Event{Kind: 9, Thread: 6, Obj: 8}, "", api.ErrArg)
	wantLine(t, api.Event{}, "", api.ErrArg)
}

// P8: Event

func TestEvent(t *testing.T) {
	wantEvent(t, "t5 read x7", read(5, 7), api.OK)
	wantEvent(t, "t0 write x3", write(0, 3), api.OK)
	wantEvent(t, "t4 acquire m0", acquire(4, 0), api.OK)
	wantEvent(t, "t1 release m4", release(1, 4), api.OK)
	wantEvent(t, "t0 fork t1", fork(0, 1), api.OK)
	wantEvent(t, "t5 join t2", join(5, 2), api.OK)
	wantEvent(t, "t2 see v3", see(2, 3), api.OK)
	wantEvent(t, "t3 show v2", show(3, 2), api.OK)
	for s, e := range allTexts() {
		wantEvent(t, s, e, api.OK)
	}
}

func TestTextOfEventOutOfRange(t *testing.T) {
	for kind := 1; kind <= 8; kind++ {
		for _, obj := range []int{-1, limits[kind], 8, 9, 10, 100} {
			wantNoEvent(t, written(api.Event{Kind: kind, Obj: obj}))
		}
		for _, thread := range []int{-1, 6, 7, 8, 9, 10, 100} {
			wantNoEvent(t, written(api.Event{Kind: kind, Thread: thread}))
		}
	}
}

func TestWordsAndLettersOfOtherKinds(t *testing.T) {
	texts := allTexts()
	others := []string{"", "r", "reads", "rea", "READ", "Read", "lock", "unlock", "load", "store", "ack", "1", "x", "t0"}
	for _, word := range slices.Concat(words, others) {
		for letter := range 256 {
			for _, digit := range []string{"0", "3", "4", "5", "7", "8", ""} {
				s := "t0 " + word + " " + string([]byte{byte(letter)}) + digit
				if e, ok := texts[s]; ok {
					wantEvent(t, s, e, api.OK)
				} else {
					wantNoEvent(t, s)
				}
			}
		}
	}
}

// Every text that differs in one byte from that of an event (replaced, inserted
// or missing) is that of another event, or of none.
func TestTextsWithOneOtherByte(t *testing.T) {
	texts := allTexts()
	check := func(s string) {
		if e, ok := texts[s]; ok {
			wantEvent(t, s, e, api.OK)
		} else {
			wantNoEvent(t, s)
		}
	}
	for kind := 1; kind <= 8; kind++ {
		s := written(api.Event{Kind: kind, Thread: 2, Obj: 3})
		for i := range len(s) + 1 {
			for b := range 256 {
				check(s[:i] + string([]byte{byte(b)}) + s[i:])
				if i < len(s) {
					check(s[:i] + string([]byte{byte(b)}) + s[i+1:])
				}
			}
			if i < len(s) {
				check(s[:i] + s[i+1:])
			}
		}
	}
}

func TestTextsOfNoEvent(t *testing.T) {
	tests := []string{
		"", " ", "  ", "   ", "\n", "\x00",
		"t", "t0", "t0 ", "t0 read", "t0 read ", "read", "read x0", " read x0", "t0  x0", "t0 x0", "x0",
		"t0read x0", "t0 readx0", "t0readx0", "t0 read x0 x0", "t0 read x0 t1 read x0", "t0 read read x0",
		"t00 read x0", "t01 read x0", "t0 read x00", "t0 read x07", "t10 read x0", "t0 read x10",
		"t+0 read x0", "t-0 read x0", "t0 read x+0", "t0 read x-0", "t-1 read x0", "t0 read x-1",
		"tt0 read x0", "t0 read xx0", "T0 read x0", "t0 read X0", "t0 READ x0", "t0 Read x0",
		"0 read 0", "00 read x0", "t0 read 00", "t 0 read x0", "t0 read x 0", "tx read x0", "t0 read xx",
		" t0 read x0", "t0 read x0 ", "t0  read x0", "t0 read  x0", "t0 read x0  ",
		"t0\tread\tx0", "t0\nread\nx0", "t0 read x0\n", "\nt0 read x0", "t0 read x0\r", "t0 read x0\r\n",
		"t0 read\u00a0x0", "t０ read x0", "t0 read x０", "t٠ read x0", "t² read x0", "\ufefft0 read x0", "t0 réad x0",
		"t0 read x0\x00", "t0 re\x00ad x0", "t0 read x\xff", "\xff\xfe", "t0x read x0", "t0 read x0x",
		"t0,read,x0", "t0 read x0#", "# t0 read x0", "read t0 x0", "x0 read t0", "t0 read x0;",
		"t256 read x0", "t0 read x256", "t18446744073709551616 read x0", "t0 read x18446744073709551616",
		"t0 read x0\nt0 read x0",
	}
	for _, s := range tests {
		wantNoEvent(t, s)
	}
}

func TestLongTextsOfNoEvent(t *testing.T) {
	for _, part := range []string{" ", "0", "t", "\n", "t0 ", "read ", "t0 read x0", "t0 read x0\n"} {
		wantNoEvent(t, strings.Repeat(part, 100000))
		wantNoEvent(t, strings.Repeat(part, 100000)+"t0 read x0")
		wantNoEvent(t, "t0 read x0"+strings.Repeat(part, 100000))
	}
}

// P9: Text

func TestText(t *testing.T) {
	wantText(t, nil, "", api.OK)
	wantText(t, list(), "", api.OK)
	wantText(t, list(show(0, 3)), "t0 show v3", api.OK)
	wantText(t, list(fork(0, 1), write(0, 0), write(1, 0)), "t0 fork t1\nt0 write x0\nt1 write x0", api.OK)
	wantText(t,
		list(fork(0, 5), acquire(5, 4), see(5, 2), release(5, 4), read(5, 7), show(0, 0), join(0, 5)),
		"t0 fork t5\nt5 acquire m4\nt5 see v2\nt5 release m4\nt5 read x7\nt0 show v0\nt0 join t5", api.OK)
	wantText(t, list(read(0, 1), read(0, 1)), "t0 read x1\nt0 read x1", api.OK)
	wantText(t, reads(80), strings.Repeat("\nt0 read x0", 80)[1:], api.OK)
}

// invalid returns a trace with each error of trace.Check.
func invalid() map[api.Errno][]api.Event {
	return map[api.Errno][]api.Event{
		api.ErrLarge: reads(81),
		api.ErrArg:   list(acquire(0, 2), read(0, 8)),
		api.ErrState: list(fork(0, 1), read(2, 0)),
		api.ErrHeld:  list(acquire(0, 2), acquire(0, 2)),
		api.ErrFree:  list(acquire(0, 2), release(0, 1)),
		api.ErrTwice: list(fork(0, 1), fork(0, 1)),
		api.ErrNone:  list(read(0, 0), join(0, 0)),
	}
}

func TestTextErrors(t *testing.T) {
	for errno, l := range invalid() {
		wantText(t, l, "", errno)
	}
	for _, e := range outOfRange() {
		wantText(t, list(e), "", api.ErrArg)
		wantText(t, list(read(0, 0), e), "", api.ErrArg)
	}
	wantText(t, list(acquire(0, 2), acquire(0, 2), read(0, 8)), "", api.ErrHeld)
	wantText(t, append(reads(80), read(0, 8)), "", api.ErrLarge)
}

// P9: Read

func TestRead(t *testing.T) {
	wantRead(t, "", nil)
	wantRead(t, "t0 show v3", list(show(0, 3)))
	wantRead(t, "t0 fork t1\nt0 write x0\nt1 write x0", list(fork(0, 1), write(0, 0), write(1, 0)))
	wantRead(t,
		"t0 fork t5\nt5 acquire m4\nt5 see v2\nt5 release m4\nt5 read x7\nt0 show v0\nt0 join t5",
		list(fork(0, 5), acquire(5, 4), see(5, 2), release(5, 4), read(5, 7), show(0, 0), join(0, 5)))
	for n := 1; n <= 80; n++ {
		wantRead(t, strings.Repeat("\nt0 read x0", n)[1:], reads(n))
	}
}

// The longest text of a trace is read, too.
func TestReadOfLongestTrace(t *testing.T) {
	l := slices.Repeat(list(acquire(0, 4), release(0, 4)), 40)
	s, errno := text.Text(l)
	if len(s) != 80*14-1 || errno != api.OK {
		t.Errorf("Text: %d bytes, %d", len(s), errno)
	}
	wantRead(t, s, l)
}

func TestReadOfLineWithoutEvent(t *testing.T) {
	wantReadError(t, "t0 read", 1, api.ErrSyntax)
	wantReadError(t, " ", 1, api.ErrSyntax)
	wantReadError(t, "t0 read x8", 1, api.ErrSyntax)
	wantReadError(t, "t0 read x0\nt0 read", 2, api.ErrSyntax)
	wantReadError(t, "t0 read x0\r\nt0 read x0", 1, api.ErrSyntax)
	wantReadError(t, "t0 read x0\rt0 read x0", 1, api.ErrSyntax)
	wantReadError(t, "t0 read x0\n t0 read x0", 2, api.ErrSyntax)
	wantReadError(t, "t0 read x0\x00", 1, api.ErrSyntax)
	for n := range 100 {
		wantReadError(t, strings.Repeat("t0 read x0\n", n)+"t0 read x8", n+1, api.ErrSyntax)
		wantReadError(t, strings.Repeat("t0 read x0\n", n)+"t6 read x0\nt0 read x0", n+1, api.ErrSyntax)
	}
}

// Line feeds separate lines: one at the beginning or at the end, or two in a
// row, make an empty line, which is the text of no event.
func TestReadOfEmptyLine(t *testing.T) {
	wantReadError(t, "\n", 1, api.ErrSyntax)
	wantReadError(t, "\n\n\n", 1, api.ErrSyntax)
	wantReadError(t, "\nt0 read x0", 1, api.ErrSyntax)
	wantReadError(t, "t0 read x0\n", 2, api.ErrSyntax)
	wantReadError(t, "t0 read x0\n\n", 2, api.ErrSyntax)
	wantReadError(t, "t0 read x0\n\nt0 read x0", 2, api.ErrSyntax)
	wantReadError(t, "t0 read x0\nt0 read x0\n", 3, api.ErrSyntax)
}

func TestReadReturnsFirstErroneousLine(t *testing.T) {
	wantReadError(t, "t0 read\nt0 read\nt0", 1, api.ErrSyntax)
	wantReadError(t, "t0 read x0\nt0 read\nt0 read x0\n\n", 2, api.ErrSyntax)
}

func TestReadErrorsOfTrace(t *testing.T) {
	for errno, l := range invalid() {
		if errno == api.ErrArg {
			continue // the event out of range has no text
		}
		var lines []string
		for _, e := range l {
			lines = append(lines, written(e))
		}
		wantReadError(t, strings.Join(lines, "\n"), 0, errno)
	}
	wantReadError(t, "t1 read x0", 0, api.ErrState)
	wantReadError(t, "t0 fork t0\nt0 read x0", 0, api.ErrTwice)
}

func TestErroneousLineIsBeforeErrorOfTrace(t *testing.T) {
	for errno, l := range invalid() {
		if errno == api.ErrArg {
			continue
		}
		var s string
		for _, e := range l {
			s += written(e) + "\n"
		}
		wantReadError(t, s+"t0 read x8", len(l)+1, api.ErrSyntax)
		wantReadError(t, "t0 read x8\n"+s+"t0 read x0", 1, api.ErrSyntax)
	}
}

func TestAtMost2000Bytes(t *testing.T) {
	for _, n := range []int{1, 1999, 2000} {
		wantReadError(t, strings.Repeat("x", n), 1, api.ErrSyntax)
	}
	for _, n := range []int{2001, 2002, 4000, 100000} {
		wantReadError(t, strings.Repeat("x", n), 0, api.ErrLarge)
		wantReadError(t, strings.Repeat("\n", n), 0, api.ErrLarge)
	}
	l := strings.Repeat("t0 see v0\n", 199)
	wantReadError(t, l+"t0 read x8", 200, api.ErrSyntax)
	wantReadError(t, l+"t0 read x8\n", 0, api.ErrLarge)
	wantReadError(t, strings.Repeat("\n", 2000), 1, api.ErrSyntax)
}

// P8 and P9: the text of every trace is read as that trace

func TestReadOfText(t *testing.T) {
	forks := list(fork(0, 1), fork(0, 2), fork(0, 3), fork(0, 4), fork(0, 5))
	for _, e := range allEvents() {
		l := append(forks[:5:5], e)
		switch e.Kind {
		case api.Fork:
			continue // all threads have begun
		case api.Join:
			if e.Obj == e.Thread {
				continue
			}
		case api.Release:
			l = append(forks[:5:5], acquire(e.Thread, e.Obj), e)
		}
		s, errno := text.Text(l)
		if errno != api.OK {
			t.Errorf("Text(%v): %d", l, errno)
		}
		wantRead(t, s, l)
	}
}

// P1 and P2

func TestNoArgumentsPanic(t *testing.T) {
	defer func() {
		if p := recover(); p != nil {
			t.Errorf("panic: %v", p)
		}
	}()
	numbers := []int{math.MinInt, -1, 0, 1, 3, 5, 6, 8, 9, 63, 64, 1 << 32, math.MaxInt}
	for _, kind := range append([]int{2, 4, 7}, numbers...) {
		for _, thread := range numbers {
			for _, obj := range numbers {
				e := api.Event{Kind: kind, Thread: thread, Obj: obj}
				text.Line(e)
				text.Text(list(fork(0, 1), e))
			}
		}
	}
	for a := range 256 {
		for b := range 256 {
			s := string([]byte{byte(a), byte(b)})
			text.Event(s)
			text.Event("t0 read" + s)
			text.Event(s + " read " + s)
			text.Read(s)
			text.Read("t0 read x0" + s)
		}
	}
}

func TestArgumentsAreNotModified(t *testing.T) {
	l := append(list(fork(0, 5), acquire(5, 2), read(5, 1), join(0, 5)), slices.Repeat(list(acquire(1, 4)), 90)...)
	want := slices.Clone(l)
	for _, n := range []int{0, 2, 4, len(l)} {
		text.Text(l[:n])
		if !slices.Equal(l, want) {
			t.Fatalf("modified: %v", l)
		}
	}
}

func TestEventsAreNewlyAllocated(t *testing.T) {
	const s = "t0 fork t1\nt0 write x0\nt1 write x0"
	first, _, _ := text.Read(s)
	second, _, _ := text.Read(s)
	clear(first[:cap(first)])
	if !slices.Equal(second, list(fork(0, 1), write(0, 0), write(1, 0))) {
		t.Errorf("changed with another result: %v", second)
	}
	wantRead(t, s, second)
}

// Calls at the same time, and after other ones, show a state that is kept between calls.
func TestResultsDependOnlyOnArguments(t *testing.T) {
	var group sync.WaitGroup
	for range 4 {
		group.Go(func() {
			for range 100 {
				wantLine(t, acquire(3, 4), "t3 acquire m4", api.OK)
				wantLine(t, acquire(3, 5), "", api.ErrArg)
				wantEvent(t, "t3 show v1", show(3, 1), api.OK)
				wantNoEvent(t, "t3 show x1")
				wantText(t, list(fork(0, 3), see(3, 1)), "t0 fork t3\nt3 see v1", api.OK)
				wantText(t, list(see(3, 1)), "", api.ErrState)
				wantRead(t, "t0 fork t3\nt3 see v1", list(fork(0, 3), see(3, 1)))
				wantRead(t, "", nil)
				wantReadError(t, "t0 fork t3\nt3 see x1", 2, api.ErrSyntax)
				wantReadError(t, "t3 see v1", 0, api.ErrState)
			}
		})
	}
	group.Wait()
}
