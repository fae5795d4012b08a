package desk_test

import (
	"slices"
	"strings"
	"testing"

	"deadheat/api"
	"deadheat/cases"
	"deadheat/desk"
)

// P1: whatever the lines are, there is no panic, and each line has an output: one of
// those that there can be.
func TestOddLines(t *testing.T) {
	words := []string{"", " ", "t", "t0", "t1", "t\xff", "read", "fork", "acquire", "x0", "x9", "t1", "m0", "races", "full", "fast", "warns", "leads", "stamp", "ring", "drop", "min", "size", "clear", "0", "1", "9", "00", "999999999", "9999999999", "-1", "\x00", "\n", "\xff\xfe", "é", "%d", "\\"}
	for seed := range 2000 {
		below := cases.Chooser(seed)
		var lines []string
		for range below(61) {
			var line string
			for range below(5) {
				line += words[below(len(words))] + strings.Repeat(" ", below(3))
			}
			lines = append(lines, line)
		}
		outputs, errno := desk.Run(lines)
		if len(outputs) != len(lines) || errno != api.OK {
			t.Fatalf("Run(%q) = %q, %d", lines, outputs, errno)
		}
		for i, output := range outputs {
			if output == "" || strings.Trim(output, "0123456789-: okyesnr") != "" {
				t.Errorf("%q: output %q", lines[i], output)
			}
		}
	}
}

func TestOddBytes(t *testing.T) {
	for seed := range 2000 {
		below := cases.Chooser(seed)
		var lines []string
		for range 60 {
			line := make([]byte, below(201))
			for i := range line {
				line[i] = byte(below(256))
			}
			lines = append(lines, string(line))
		}
		wantRun(t, lines, slices.Repeat([]string{"error 3"}, 60))
	}
}

// P2: the argument is not modified, nor are the lines behind it in the same memory.
func TestLinesAreNotModified(t *testing.T) {
	lines := append(someLines(1), someLines(2)...)
	want := slices.Clone(lines)
	for _, n := range []int{0, 1, 30, 60, 61, 120} {
		desk.Run(lines[:n])
	}
	if !slices.Equal(lines, want) {
		t.Error("modified")
	}
}

func TestLinesAreNotRetained(t *testing.T) {
	lines := []string{"t0 fork t1", "nothing", "size"}
	outputs, _ := desk.Run(lines)
	clear(lines)
	if want := []string{"ok", "error 3", "1"}; !slices.Equal(outputs, want) {
		t.Errorf("%q, want %q", outputs, want)
	}
}

func TestResultsAreNewlyAllocated(t *testing.T) {
	for seed := range 20 {
		lines := someLines(seed)
		for _, n := range []int{0, 1, 30, 60} {
			if cases.SharesMemory(func() []string { outputs, _ := desk.Run(lines[:n]); return outputs }) {
				t.Errorf("seed %d, %d lines: results share memory", seed, n)
			}
		}
	}
}

// P2: no call knows the trace of another one.
func TestTraceIsNotKept(t *testing.T) {
	wantDialog(t, "t0 fork t1 = ok; size = 1")
	wantDialog(t, "size = 0; t1 read x0 = error 11; t0 fork t1 = ok; t1 acquire m0 = ok")
	wantTooLarge(t, append(slices.Repeat([]string{"t0 read x0"}, 60), "size"))
	wantDialog(t, "size = 0; t0 fork t1 = ok; t1 acquire m0 = ok")
}

func TestResultsDependOnlyOnLines(t *testing.T) {
	lines := someLines(3)
	outputs, _ := desk.Run(lines)
	cases.Together(func() {
		wantRun(t, lines, outputs)
		wantDialog(t, "t0 fork t1 = ok; t0 write x0 = ok; t1 write x0 = ok; races = 1-2; leads 1 2 = no; stamp 9 = error 1; stamp 09 = error 3")
		wantTooLarge(t, make([]string, 61))
	})
}
