package desk_test

import (
	"fmt"
	"slices"
	"strings"
	"testing"

	"deadheat/api"
	"deadheat/cases"
	"deadheat/desk"
	"deadheat/text"
)

func wantRun(t *testing.T, lines, want []string) {
	t.Helper()
	got, errno := desk.Run(lines)
	if !slices.Equal(got, want) || errno != api.OK {
		t.Errorf("Run(%q) = %q, %d, want %q", lines, got, errno, want)
	}
}

// wantDialog runs lines that are written with their outputs, like "size = 0; t0 fork t1 = ok".
func wantDialog(t *testing.T, dialog string) {
	t.Helper()
	var lines, want []string
	for _, part := range strings.Split(dialog, "; ") {
		line, output, is := strings.Cut(part, " = ")
		if !is {
			t.Fatalf("no output: %q", part)
		}
		lines, want = append(lines, line), append(want, output)
	}
	wantRun(t, lines, want)
}

// wantOutput runs one line after some events, written like "t0 fork t1; t0 read x0".
func wantOutput(t *testing.T, events, line, want string) {
	t.Helper()
	var lines []string
	if events != "" {
		lines = strings.Split(events, "; ")
	}
	wantRun(t, append(lines, line), append(oks(len(lines)), want))
}

func wantTooLarge(t *testing.T, lines []string) {
	t.Helper()
	if got, errno := desk.Run(lines); len(got) != 0 || errno != api.ErrLarge {
		t.Errorf("%d lines: Run = %q, %d, want none, ErrLarge", len(lines), got, errno)
	}
}

// oks returns the outputs of so many events.
func oks(n int) []string { return slices.Repeat([]string{"ok"}, n) }

// usual returns a correct line of each command. The trace is to have two events.
func usual() []string {
	return []string{
		"t0 read x0", "races", "full", "fast", "warns", "leads 0 1", "stamp 1", "ring", "drop 1", "size", "clear",
	}
}

// P35: Run

// The chapter's example.
func TestEventsOneAndTwoRace(t *testing.T) {
	wantDialog(t, "t0 fork t1 = ok; t0 write x0 = ok; t1 write x0 = ok; races = 1-2")
}

func TestNoLines(t *testing.T) {
	wantRun(t, nil, nil)
	wantRun(t, []string{}, nil)
}

func TestInitialTrace(t *testing.T) {
	wantDialog(t, "size = 0; races = -; full = -; fast = -; warns = -; ring = -; leads 0 0 = error 1; stamp 0 = error 1; drop 0 = error 1; min = error 7; clear = ok")
	wantDialog(t, "t1 read x0 = error 11; t0 read x0 = ok; size = 1")
}

func TestNumberOfLines(t *testing.T) {
	wantRun(t, slices.Repeat([]string{"t0 read x0"}, 60), oks(60))
	lines := slices.Repeat([]string{"t0 read x0"}, 59)
	wantRun(t, append(lines, "size"), append(oks(59), "59"))
	for _, n := range []int{61, 62, 100, 10000} {
		wantTooLarge(t, slices.Repeat([]string{"t0 read x0"}, n))
		wantTooLarge(t, make([]string, n))
	}
}

func TestLengthOfLines(t *testing.T) {
	for _, n := range []int{199, 200} {
		wantRun(t, []string{"t0 fork t1", "size" + strings.Repeat(" ", n-4)}, []string{"ok", "1"})
		wantRun(t, []string{"t0 fork t1", strings.Repeat(" ", n-4) + "size"}, []string{"ok", "1"})
		wantRun(t, []string{strings.Repeat("x", n), strings.Repeat(" ", n)}, []string{"error 3", "error 3"})
	}
	for _, n := range []int{201, 256, 100000} {
		long := "size" + strings.Repeat(" ", n-4)
		wantTooLarge(t, []string{long})
		wantTooLarge(t, []string{long, "size"})
		wantTooLarge(t, []string{"size", "t0 fork t1", long})
		wantTooLarge(t, append(slices.Repeat([]string{"size"}, 59), long))
		wantTooLarge(t, append(slices.Repeat([]string{"size"}, 60), long))
	}
	// The length is that in bytes, of each line by itself.
	wantRun(t, []string{strings.Repeat("é", 100)}, []string{"error 3"})
	wantTooLarge(t, []string{strings.Repeat("é", 101)})
	wantRun(t, slices.Repeat([]string{"size" + strings.Repeat(" ", 196)}, 60), slices.Repeat([]string{"0"}, 60))
}

// P35: words

func TestSpaces(t *testing.T) {
	wantRun(t,
		[]string{" t0  fork   t1", "t0 write x0    ", "   t1 write   x0 ", " races", "races  ", "  leads  0   2 ", "stamp     2", " drop 1 ", "size "},
		[]string{"ok", "ok", "ok", "1-2", "1-2", "yes", "1 1 0 0 0 0", "ok", "2"})
}

func TestLinesWithoutWords(t *testing.T) {
	for _, line := range []string{"", " ", "  ", strings.Repeat(" ", 200)} {
		wantRun(t, []string{"t0 fork t1", line, "size"}, []string{"ok", "error 3", "1"})
	}
}

// Nothing else separates words or can be left out around them.
func TestOtherBytesBesideWords(t *testing.T) {
	others := []string{"\t", "\n", "\v", "\f", "\r", "\r\n", "\x00", "\x1f", "\x7f", "\x85", "\xa0", "\xff", "\u00a0", "\u0085", "\u2003", "\u3000", "\ufeff", ",", ";", "."}
	for _, other := range others {
		for _, line := range usual() {
			lines := []string{other + line, line + other, line + " " + other, other + " " + line}
			if strings.Contains(line, " ") {
				lines = append(lines, strings.ReplaceAll(line, " ", other), strings.Replace(line, " ", " "+other, 1), strings.Replace(line, " ", other+" ", 1))
			}
			for _, line := range lines {
				wantOutput(t, "t0 fork t1; t0 read x0", line, "error 3")
			}
		}
	}
}

func TestNoCommands(t *testing.T) {
	for _, line := range []string{
		"race", "racess", "Races", "RACES", "all", "Full", "fas", "slow", "warn", "lead", "LEADS 0 1", "stamps", "stamps 0",
		"Stamp 0", "rings", "graph", "rank", "Drop 0", "without 0", "minimum", "max", "sizes", "len", "Clear", "quit", "help",
		"t", "t0", "t?", "-", "ok", "error", "error 3", "0", "1-2", "?", "desk", "tell", "add", "trace", "answer",
		"t 0 read x0", "0 read x0", "x0 read t0", "read x0", "read t0 x0", "T0 read x0",
		"ra ces", "si ze", "races;", "races,fast", "races fast", "size size",
	} {
		wantOutput(t, "t0 fork t1; t0 read x0", line, "error 3")
	}
}

// A command with a word too few or too many is none.
func TestOtherNumbersOfWords(t *testing.T) {
	for _, line := range append(usual(), "min") {
		first, rest, _ := strings.Cut(line, " ")
		for _, behind := range []string{"", " 0", " 1", " 0 1", " 0 0", " 0 1 2", " 0 1 2 3", " x", " -", " read x0", " " + first} {
			if other := first + behind; len(strings.Fields(other)) != len(strings.Fields(line)) {
				wantOutput(t, "t0 fork t1; t0 read x0", other, "error 3")
			}
		}
		wantOutput(t, "t0 fork t1; t0 read x0", line+" 0", "error 3")
		wantOutput(t, "t0 fork t1; t0 read x0", "0 "+line, "error 3")
		if rest != "" {
			wantOutput(t, "t0 fork t1; t0 read x0", rest, "error 3")
		}
	}
}

// P35: NUMBERs

func TestNumbers(t *testing.T) {
	events := "t0 fork t1" + strings.Repeat("; t0 read x0", 11)
	wantOutput(t, events, "stamp 0", "1 0 0 0 0 0")
	wantOutput(t, events, "stamp 9", "10 0 0 0 0 0")
	wantOutput(t, events, "stamp 10", "11 0 0 0 0 0")
	wantOutput(t, events, "stamp 11", "12 0 0 0 0 0")
	// Nine digits are not too many, but there is no such event.
	for _, number := range []string{"12", "80", "100", "12345678", "100000000", "999999999"} {
		wantOutput(t, events, "stamp "+number, "error 1")
		wantOutput(t, events, "drop "+number, "error 1")
		wantOutput(t, events, "leads 0 "+number, "error 1")
		wantOutput(t, events, "leads "+number+" 0", "error 1")
	}
}

// noNumbers returns words that are no NUMBERs.
func noNumbers() []string {
	return []string{
		"00", "01", "007", "0000000000", "000000001", "010", "0123456789",
		"1000000000", "1234567890", "0000000001", "4294967296", "9223372036854775807", "9223372036854775808", "18446744073709551616",
		"-0", "-1", "+0", "+1", "--1", "-", "+", "1-", "1+", "0x1", "0b1", "0o1", "1_0", "0_1", "_1", "1_", "0.", "1.0", ".1", "1e0", "1e1", "1E1",
		"a", "1a", "a1", "A", "x0", "t0", "one", "1,0", "1'0", "１", "١", "²", "½", "1\x00", "\x001", "1\xff", "\xff", "1\n", "\t1", "1\r",
		"inf", "NaN", "nil", "true", "'1'", "\"1\"", "(1)", "/", ":", "1/1", "0:",
		strings.Repeat("1", 100), strings.Repeat("0", 100),
	}
}

func TestNoNumbers(t *testing.T) {
	events := "t0 fork t1" + strings.Repeat("; t0 read x0", 11)
	for _, word := range noNumbers() {
		wantOutput(t, events, "stamp "+word, "error 3")
		wantOutput(t, events, "drop "+word, "error 3")
		wantOutput(t, events, "leads "+word+" 1", "error 3")
		wantOutput(t, events, "leads 0 "+word, "error 3")
		// What is no NUMBER is found before an index that is too large.
		wantOutput(t, events, "leads "+word+" 99", "error 3")
		wantOutput(t, events, "leads 99 "+word, "error 3")
	}
}

// Of all words of one or two bytes, only the numbers from 0 to 99 are NUMBERs.
func TestShortWordsAsNumbers(t *testing.T) {
	numbers := map[string]bool{}
	for n := range 100 {
		numbers[fmt.Sprint(n)] = true
	}
	check := func(word string) {
		want := "error 3"
		if numbers[word] {
			want = "error 1"
		}
		wantRun(t, []string{"stamp " + word, "drop " + word, "leads " + word + " 0"}, []string{want, want, want})
	}
	for b := range 256 {
		if b == ' ' {
			continue
		}
		check(string([]byte{byte(b)}))
		for c := range 256 {
			if c != ' ' {
				check(string([]byte{byte(b), byte(c)}))
			}
		}
	}
}

// P35: events

func TestEvents(t *testing.T) {
	wantDialog(t, "t0 fork t5 = ok; t5 acquire m4 = ok; t5 write x7 = ok; t5 show v3 = ok; t0 see v3 = ok; t0 read x7 = ok; t5 release m4 = ok; t0 join t5 = ok; size = 8")
	wantDialog(t, "t0 read x0 = ok; t0 read x0 = ok; t0 read x0 = ok; size = 3")
}

func TestErrorsOfEvents(t *testing.T) {
	wantDialog(t, "t1 read x0 = error 11; t0 acquire m0 = ok; t0 acquire m0 = error 9; t0 release m1 = error 10; t0 fork t1 = ok; t0 fork t1 = error 8; t0 fork t0 = error 8; t0 join t2 = error 7; t0 join t0 = error 7; t1 acquire m0 = error 9; t1 release m0 = error 10; t1 join t0 = ok; t0 read x0 = error 11; size = 3")
}

// Each error of trace.Check but two: the text of an event that is out of range is none,
// and there are not enough lines for too many events.
func TestRejectedEventsAreNotContained(t *testing.T) {
	for errno, l := range cases.Invalid() {
		if errno == api.ErrArg || errno == api.ErrLarge {
			continue
		}
		lines := linesOf(l)
		last := len(l) - 1
		output := fmt.Sprint("error ", errno)
		wantRun(t,
			slices.Concat(lines, lines[last:], []string{"size", "t0 show v3", "size"}),
			slices.Concat(oks(last), []string{output, output, fmt.Sprint(last), "ok", fmt.Sprint(last + 1)}))
	}
}

// linesOf returns the texts of events.
func linesOf(l []api.Event) []string {
	var lines []string
	for _, e := range l {
		line, errno := text.Line(e)
		if errno != api.OK {
			panic("no text")
		}
		lines = append(lines, line)
	}
	return lines
}

// All events that are in range, each after what it needs.
func TestAllEvents(t *testing.T) {
	limits := []int{0, 8, 8, 5, 5, 6, 6, 4, 4}
	for kind := 1; kind <= 8; kind++ {
		for thread := range 6 {
			for obj := range limits[kind] {
				e := api.Event{Kind: kind, Thread: thread, Obj: obj}
				want := "ok"
				switch {
				case kind == api.Fork && (obj == 0 || obj == thread):
					want = "error 8"
				case kind == api.Join && obj == thread:
					want = "error 7"
				}
				wantOutput(t, strings.Join(linesOf(before(e)), "; "), linesOf([]api.Event{e})[0], want)
			}
		}
	}
}

// before returns the events that an event needs before it.
func before(e api.Event) []api.Event {
	var l []api.Event
	for other := 1; other < 6; other++ {
		if e.Kind != api.Fork || other == e.Thread {
			l = append(l, api.Event{Kind: api.Fork, Obj: other})
		}
	}
	if e.Kind == api.Release {
		l = append(l, api.Event{Kind: api.Acquire, Thread: e.Thread, Obj: e.Obj})
	}
	return l
}

func TestNoEvents(t *testing.T) {
	for _, line := range []string{
		"t6 read x0", "t9 read x0", "tt read x0", "t- read x0", "t? read x0", "t0 read x8", "t0 acquire m5", "t0 fork t6", "t0 see v4",
		"t0 read y0", "t0 read m0", "t0 reads x0", "t0 READ x0", "t0 lock m0", "t0 read x", "t0 read 0", "t0 read x00", "t0 0 1", "t0 size clear",
		"t00 read x0", "t01 read x0", "t10 read x0", "t read x0", "0t read x0", "t0", "t0 read", "t0 read x 0", "t0 read x0 x0",
		"t\xff read x0", "t\x00 read x0", "t\xc3\xa9 read x0", "t0\x00 read x0", "tt0 read x0",
	} {
		wantOutput(t, "t0 fork t1; t0 read x0", line, "error 3")
	}
	for b := range 256 {
		want := "error 3"
		if '0' <= b && b <= '5' {
			want = "ok"
		}
		first := string([]byte{'t', byte(b)})
		wantOutput(t, "t0 fork t1; t0 fork t2; t0 fork t3; t0 fork t4; t0 fork t5", first+" read x0", want)
	}
}
