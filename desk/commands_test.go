package desk_test

import (
	"fmt"
	"slices"
	"strings"
	"testing"

	"deadheat/api"
	"deadheat/cases"
	"deadheat/desk"
	"deadheat/fast"
	"deadheat/full"
	"deadheat/guard"
	"deadheat/order"
	"deadheat/race"
	"deadheat/ring"
	"deadheat/shrink"
	"deadheat/stamp"
	"deadheat/text"
	"deadheat/trace"
)

// P35: each command, worked out by hand.

func TestRaces(t *testing.T) {
	wantOutput(t, "t0 fork t1; t0 read x0; t1 read x0", "races", "-")
	wantOutput(t, "t0 fork t1; t0 write x0; t1 read x0; t1 write x0; t0 read x0", "races", "1-2 1-3 3-4")
	wantOutput(t, "t0 fork t1; t0 write x0; t0 write x1; t1 read x1; t1 write x0", "races", "1-4 2-3")
	many := "t0 fork t1; t0 write x0" + strings.Repeat("; t0 read x5", 9) + "; t1 write x0"
	wantOutput(t, many, "races", "1-11")
}

// full flags both Reads of thread 1, fast only the first one, which the second one repeats.
func TestFullAndFast(t *testing.T) {
	events := "t0 fork t1; t0 write x0; t1 read x0; t1 read x0; t0 read x0"
	wantOutput(t, events, "full", "2:2 3:2")
	wantOutput(t, events, "fast", "2:2")
	wantOutput(t, events, "races", "1-2 1-3")
	kinds := "t0 fork t1; t0 write x0; t1 write x0; t0 read x0; t1 read x1; t0 write x1"
	wantOutput(t, kinds, "full", "2:1 3:2 5:3")
	wantOutput(t, kinds, "fast", "2:1 3:2 5:3")
	quiet := "t0 write x0; t0 fork t1; t1 write x0"
	wantOutput(t, quiet, "full", "-")
	wantOutput(t, quiet, "fast", "-")
}

// Thread 1 has no lock that thread 0 has, and warnings need no race.
func TestWarns(t *testing.T) {
	events := "t0 write x3; t0 fork t1; t1 write x3; t1 acquire m0; t1 write x3"
	wantOutput(t, events, "warns", "2 4")
	wantOutput(t, events, "races", "-")
	wantOutput(t, "t0 acquire m0; t0 write x3; t0 release m0; t0 fork t1; t1 acquire m0; t1 write x3", "warns", "-")
}

func TestLeads(t *testing.T) {
	events := "t0 fork t1; t0 show v0; t1 see v0; t1 write x0; t0 write x0"
	wantOutput(t, events, "leads 0 1", "yes")
	wantOutput(t, events, "leads 1 3", "yes")
	wantOutput(t, events, "leads 3 1", "no")
	wantOutput(t, events, "leads 3 4", "no")
	wantOutput(t, events, "leads 2 2", "no")
	wantOutput(t, events, "leads 4 5", "error 1")
	wantOutput(t, events, "leads 5 4", "error 1")
	wantOutput(t, events, "leads 5 5", "error 1")
}

func TestStamp(t *testing.T) {
	events := "t0 fork t5; t0 show v0; t5 see v0; t0 write x0; t5 read x0"
	for i, want := range []string{"1 0 0 0 0 0", "2 0 0 0 0 0", "2 0 0 0 0 1", "3 0 0 0 0 0", "2 0 0 0 0 2", "error 1", "error 1"} {
		wantOutput(t, events, fmt.Sprint("stamp ", i), want)
	}
	wantOutput(t, "t0 fork t1; t1 fork t2; t2 fork t3; t3 fork t4; t4 fork t5; t5 read x0", "stamp 5", "1 1 1 1 1 1")
}

func TestRing(t *testing.T) {
	wantOutput(t, "t0 acquire m1; t0 acquire m2; t0 release m2; t0 release m1", "ring", "-")
	wantOutput(t, "t0 acquire m1; t0 acquire m2; t0 release m1; t0 acquire m1", "ring", "1 2")
	wantOutput(t, "t0 acquire m0; t0 acquire m4; t0 release m0; t0 acquire m3; t0 release m4; t0 acquire m0; t0 release m3; t0 acquire m3", "ring", "0 3")
	wantOutput(t, "t0 acquire m2; t0 acquire m4; t0 release m2; t0 acquire m1; t0 release m4; t0 acquire m2", "ring", "1 2 4")
}

func TestDrop(t *testing.T) {
	wantDialog(t, "t0 fork t1 = ok; t0 write x0 = ok; t1 write x0 = ok; races = 1-2; drop 1 = ok; size = 2; races = -; t0 write x0 = ok; races = 1-2; drop 3 = error 1; drop 0 = error 5; size = 3; drop 2 = ok; drop 1 = ok; drop 0 = ok; drop 0 = error 1; size = 0; t1 read x0 = error 11")
	wantDialog(t, "t0 acquire m0 = ok; t0 acquire m0 = error 9; drop 0 = ok; t0 release m0 = error 10; t0 acquire m0 = ok; t0 release m0 = ok; drop 0 = error 5; drop 1 = ok; t0 release m0 = ok; size = 2")
}

// min tells how many events shrink.Min leaves, but leaves the trace as it is.
func TestMin(t *testing.T) {
	wantDialog(t, "t0 fork t1 = ok; t0 read x1 = ok; t0 write x0 = ok; min = error 7; t1 read x1 = ok; t1 read x0 = ok; min = 3; min = 3; size = 5; races = 2-4; t0 write x0 = ok; races = 2-4 4-5; stamp 5 = 4 0 0 0 0 0")
}

func TestSizeAndClear(t *testing.T) {
	wantDialog(t, "size = 0; clear = ok; size = 0; t0 fork t1 = ok; size = 1; t1 acquire m0 = ok; size = 2; t0 join t1 = ok; size = 3; size = 3; clear = ok; size = 0; clear = ok; t1 read x0 = error 11; t0 acquire m0 = ok; t0 fork t1 = ok; size = 2; clear = ok; races = -; stamp 0 = error 1; t0 release m0 = error 10; size = 0")
}

func TestClearForgetsRaces(t *testing.T) {
	wantDialog(t, "t0 fork t1 = ok; t0 write x0 = ok; t1 write x0 = ok; races = 1-2; min = 3; clear = ok; races = -; full = -; fast = -; warns = -; min = error 7; t0 fork t1 = ok; t1 write x0 = ok; races = -; t0 write x0 = ok; races = 1-2")
}

// Whatever has an error has no effect, and the lines after it go on.
func TestErrorsHaveNoEffect(t *testing.T) {
	start := []string{"t0 fork t1", "t0 acquire m1", "t0 acquire m2", "t0 read x0", "t1 read x0"}
	wrong := []struct{ line, output string }{
		{"", "error 3"}, {"nothing", "error 3"}, {"t0 write", "error 3"}, {"t0 write x8", "error 3"}, {"t0 write x0 x0", "error 3"},
		{"t0 acquire m1", "error 9"}, {"t1 release m1", "error 10"}, {"t0 fork t1", "error 8"}, {"t0 join t0", "error 7"}, {"t2 write x0", "error 11"},
		{"drop 0", "error 5"}, {"drop 5", "error 1"}, {"drop 03", "error 3"}, {"drop -1", "error 3"}, {"drop", "error 3"}, {"drop 3 3", "error 3"},
		{"clear 0", "error 3"}, {"Clear", "error 3"}, {"min", "error 7"}, {"stamp 5", "error 1"}, {"leads 0 5", "error 1"}, {"leads 0", "error 3"},
	}
	looks := []string{"size", "stamp 0", "stamp 1", "stamp 2", "stamp 3", "stamp 4", "races", "t1 write x0", "races", "t0 release m2", "t0 release m1"}
	seen := []string{"5", "1 0 0 0 0 0", "2 0 0 0 0 0", "3 0 0 0 0 0", "4 0 0 0 0 0", "1 1 0 0 0 0", "-", "ok", "3-5", "ok", "ok"}
	wantRun(t, append(start, looks...), append(oks(5), seen...))
	lines, outputs := start, oks(5)
	for _, w := range wrong {
		wantRun(t, slices.Concat(start, []string{w.line}, looks), slices.Concat(oks(5), []string{w.output}, seen))
		lines, outputs = append(lines, w.line), append(outputs, w.output)
	}
	wantRun(t, append(lines, looks...), append(outputs, seen...))
}

// P35: random lines, with the functions of the other packages as references.

func TestManyDialogs(t *testing.T) {
	for seed := range 3000 {
		lines := someLines(seed)
		var l []api.Event
		var want []string
		for _, line := range lines {
			var output string
			l, output = reference(l, line)
			want = append(want, output)
		}
		wantRun(t, lines, want)
	}
}

// someLines returns 60 lines; which ones depends on seed alone.
func someLines(seed int) []string {
	below := cases.Chooser(seed)
	l := cases.Long(4+below(30), seed)
	if seed%8 == 0 { // In the other traces, there are hardly any cycles of locks.
		l = cases.Events("t0 fork t1; t1 acquire m2; t1 acquire m0; t1 release m2; t1 acquire m3; t1 release m0; t1 acquire m2")
	}
	lines := linesOf(l)
	for len(lines) < 60 {
		lines = append(lines, aLine(below))
	}
	return lines
}

// aLine returns a line of a command that can be right or wrong.
func aLine(below func(int) int) string {
	simple := []string{"races", "full", "fast", "warns", "ring", "min", "size"}
	switch k := below(30); {
	case k < 10:
		e := api.Event{Kind: below(8) + 1, Thread: below(3), Obj: below(4)}
		if below(4) == 0 {
			e = api.Event{Kind: api.Acquire + below(2), Thread: below(2), Obj: below(3)}
		}
		return strings.ReplaceAll(linesOf([]api.Event{e})[0], " ", strings.Repeat(" ", 1+below(2)))
	case k < 17:
		return simple[k-10]
	case k < 20:
		return fmt.Sprint("leads ", below(25), " ", below(25))
	case k < 22:
		return fmt.Sprint("stamp ", below(25))
	case k < 27:
		return fmt.Sprint("drop ", below(25))
	case k < 29:
		return fmt.Sprint([]string{"size ", "drop ", "min -", "t0 read x", "tt"}[below(5)], below(9)+9)
	}
	if below(4) == 0 {
		return "clear"
	}
	return ""
}

// reference returns the trace after a line of a command, and its output.
func reference(l []api.Event, line string) ([]api.Event, string) {
	words := strings.Fields(line)
	var a, b int
	if n, _ := fmt.Sscanf(line, "leads %d %d", &a, &b); n == 2 {
		is, errno := order.Leads(l, a, b)
		return l, or(errno, map[bool]string{true: "yes", false: "no"}[is])
	} else if n, _ := fmt.Sscanf(line, "drop %d", &a); n == 1 {
		shorter, errno := shrink.Without(l, a)
		if errno != api.OK {
			shorter = l
		}
		return shorter, or(errno, "ok")
	} else if n, _ := fmt.Sscanf(line, "stamp %d", &a); n == 1 {
		if stamps, _ := stamp.Stamps(l); a < len(stamps) {
			return l, strings.Trim(fmt.Sprint(stamps[a]), "[]")
		}
		return l, "error 1"
	} else if len(words) == 3 {
		e, errno := text.Event(strings.Join(words, " "))
		longer := append(slices.Clone(l), e)
		if errno == api.OK {
			_, errno = trace.Check(longer)
		}
		if errno != api.OK {
			longer = l
		}
		return longer, or(errno, "ok")
	}
	return simpleReference(l, line)
}

// simpleReference is reference for the commands of one word.
func simpleReference(l []api.Event, line string) ([]api.Event, string) {
	var output string
	switch line {
	case "races":
		races, _ := race.All(l)
		for _, r := range races {
			output += fmt.Sprintf(" %d-%d", r.A, r.B)
		}
	case "full", "fast":
		flags, _ := map[string]func([]api.Event) ([]api.Flag, api.Errno){"full": full.Run, "fast": fast.Run}[line](l)
		for _, f := range flags {
			output += fmt.Sprintf(" %d:%d", f.At, f.Kind)
		}
	case "warns":
		warns, _ := guard.Warns(l)
		for _, f := range warns {
			output += fmt.Sprintf(" %d", f.At)
		}
	case "ring":
		pairs, _ := ring.Graph(l)
		cycle, _ := ring.Ring(pairs)
		output = strings.Trim(fmt.Sprint(cycle), "[]")
	case "min":
		least, errno := shrink.Min(l)
		return l, or(errno, fmt.Sprint(len(least)))
	case "size":
		return l, fmt.Sprint(len(l))
	case "clear":
		return nil, "ok"
	default:
		return l, "error 3"
	}
	if output == "" {
		output = "-"
	}
	return l, strings.TrimPrefix(output, " ")
}

// or returns what is printed of an error, or an output if there is none.
func or(errno api.Errno, output string) string {
	if errno != api.OK {
		return fmt.Sprint("error ", errno)
	}
	return output
}

// A reference without variety would not tell much: all commands have all their outputs.
func TestDialogsHaveVariety(t *testing.T) {
	seen := map[string]int{}
	for seed := range 300 {
		lines := someLines(seed)
		outputs, _ := desk.Run(lines)
		for i, line := range lines {
			first, _, _ := strings.Cut(line, " ")
			output := "results"
			if outputs[i] == "-" || outputs[i] == "ok" || strings.HasPrefix(outputs[i], "error") {
				output = outputs[i]
			}
			seen[first+" "+output]++
		}
	}
	for _, want := range []string{"races -", "races results", "full -", "full results", "fast results", "warns -", "warns results", "ring -", "ring results", "min results", "min error 7", "min error 3", "stamp results", "stamp error 1", "leads results", "leads error 1", "drop ok", "drop error 1", "drop error 5", "clear ok", "size results", "size error 3", "t0 error 3", "t1 ok", "t0 error 9", "t0 error 10", "t0 error 8", "t0 error 7", "t1 error 11"} {
		if seen[want] < 5 {
			t.Errorf("%s: %d times", want, seen[want])
		}
	}
}
