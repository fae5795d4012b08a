package every_test

import (
	"slices"
	"testing"

	"deadheat/api"
	"deadheat/cases"
	"deadheat/every"
	"deadheat/full"
	"deadheat/prog"
)

// search is what is found in all executions of a program. It looks at each of them, also
// if another one came to the same, and relies on no order among them.
type search struct {
	program  [][]api.Op
	ways     map[api.End][]int // the smallest picks that lead to each end
	shortest map[api.End]int   // the lowest number of picks that do
	race     []int             // the best picks with a race
}

func searched(p [][]api.Op) search {
	s := search{program: p, ways: map[api.End][]int{}, shortest: map[api.End]int{}}
	s.goOn(nil)
	return s
}

func (s *search) goOn(picks []int) {
	end, events, _ := prog.Run(s.program, picks)
	if end.Done || end.Stuck {
		s.addEnd(end, picks)
	}
	if flags, _ := full.Run(events); len(flags) > 0 {
		s.addRace(picks)
	}
	able, _ := prog.Able(s.program, picks)
	for _, thread := range slices.Backward(able) {
		s.goOn(append(picks[:len(picks):len(picks)], thread))
	}
}

func (s *search) addEnd(end api.End, picks []int) {
	way, is := s.ways[end]
	if !is || slices.Compare(picks, way) < 0 {
		s.ways[end] = picks
	}
	if !is || len(picks) < s.shortest[end] {
		s.shortest[end] = len(picks)
	}
}

func (s *search) addRace(picks []int) {
	if s.race == nil || len(picks) < len(s.race) || len(picks) == len(s.race) && slices.Compare(picks, s.race) < 0 {
		s.race = picks
	}
}

// isBefore reports whether P31 has one end before another one.
func isBefore(a, b api.End) bool {
	numbers := func(e api.End) []int { return slices.Concat(e.Mem[:], e.Vols[:], e.Has[:]) }
	if order := slices.Compare(numbers(a), numbers(b)); order != 0 {
		return order < 0
	}
	return !a.Done && b.Done
}

// wantSearched wants what a search finds.
func wantSearched(t *testing.T, found *counts, p [][]api.Op) {
	t.Helper()
	s := searched(p)
	found.add(s)
	ends, errno := every.Ends(p)
	if len(ends) != len(s.ways) || errno != api.OK {
		t.Errorf("Ends(%v) = %v, %d, want those of %v", p, ends, errno, s.ways)
	}
	for i, e := range ends {
		way, is := s.ways[e]
		if !is || i > 0 && !isBefore(ends[i-1], e) {
			t.Errorf("Ends(%v) = %v, want those of %v, in order", p, ends, s.ways)
		}
		wantWay(t, p, e, way)
	}
	wantRaces(t, p, s.race)
}

// counts tells how many programs there were of several sorts; most are of more than one.
type counts struct {
	racing, silent int // with a race, and without one
	several        int // with several ends
	mixed          int // with ends that are stuck and others that are done
	long           int // with an end to which the smallest picks are not the shortest
}

func (c *counts) add(s search) {
	stuck, long := 0, 0
	for end, way := range s.ways {
		if end.Stuck {
			stuck++
		}
		if s.shortest[end] < len(way) {
			long++
		}
	}
	count(&c.racing, len(s.race) > 0)
	count(&c.silent, len(s.race) == 0)
	count(&c.several, len(s.ways) > 1)
	count(&c.mixed, 0 < stuck && stuck < len(s.ways))
	count(&c.long, long > 0)
}

func count(n *int, is bool) {
	if is {
		*n++
	}
}

// wantMany wants that there were programs of all sorts: a test of others would not tell much.
func (c *counts) wantMany(t *testing.T, least int) {
	t.Helper()
	if min(c.racing, c.silent, c.several, c.mixed, c.long) < least {
		t.Errorf("too few programs: %+v", c)
	}
}

// Two threads of a few operations each.
func TestShortPrograms(t *testing.T) {
	var found counts
	lists := cases.Lists(2, cases.Program("load x0; store x0; add 1; lock m0; unlock m0; fork t1; join t0; join t1; see v0; show v0")[0])
	fork := cases.Program("fork t1")[0]
	for _, first := range lists {
		for _, second := range lists {
			wantSearched(t, &found, [][]api.Op{slices.Concat(fork, first), second})
		}
	}
	found.wantMany(t, 5)
}

// Three threads; the second one may fork the third one, too.
func TestThreeThreads(t *testing.T) {
	var found counts
	choices := cases.Program("add 1; store x0; load x0; lock m0; unlock m0")[0]
	forks := cases.Program("fork t1; fork t2")[0]
	for _, first := range cases.Lists(1, choices) {
		for _, second := range cases.Lists(2, slices.Concat(choices, forks[1:])) {
			for _, third := range cases.Lists(2, choices) {
				wantSearched(t, &found, [][]api.Op{slices.Concat(forks, first), second, third})
				wantSearched(t, &found, [][]api.Op{slices.Concat(forks[:1], first), second, third})
			}
		}
	}
	found.wantMany(t, 5)
}

// manySizes returns numbers of operations of the threads of programs, up to 10 in total.
func manySizes() [][]int {
	return [][]int{{10}, {6, 4}, {3, 7}, {4, 3, 3}, {3, 4, 2}, {4, 2, 2, 2}, {3, 3, 2, 2}, {5, 1, 2, 2}, {5, 1, 1, 1, 2}, {5, 1, 1, 1, 1, 1}, {0, 10}}
}

func TestMixedPrograms(t *testing.T) {
	var found counts
	for seed := range 50 {
		for _, sizes := range manySizes() {
			wantSearched(t, &found, cases.Mixed(seed, sizes...))
			wantSearched(t, &found, forked(seed, sizes...))
		}
	}
	found.wantMany(t, 5)
}

// forked returns a program in which thread 0 first forks all others, so that there are
// many executions, and all use the same few objects. Its other operations depend on seed
// alone.
func forked(seed int, sizes ...int) [][]api.Op {
	choices := cases.Program("load x0; store x0; add 1; add -2; see v0; show v0; lock m0; unlock m0; lock m1; unlock m1; load x1; store x1")[0]
	below := cases.Chooser(seed)
	var p [][]api.Op
	for thread, size := range sizes {
		var ops []api.Op
		for at := range size {
			if thread == 0 && at+1 < len(sizes) {
				ops = append(ops, api.Op{Kind: api.OFork, Obj: at + 1})
			} else {
				ops = append(ops, choices[below(len(choices))])
			}
		}
		p = append(p, ops)
	}
	return p
}

// Whatever the picks are: where no thread can go on, that is one of the ends, and its way
// is not larger than the picks that had an effect.
func TestAnyPicks(t *testing.T) {
	over := 0
	for seed := range 200 {
		for _, sizes := range manySizes() {
			p := forked(seed, sizes...)
			below := cases.Chooser(seed + 1000)
			var picks, effective []int
			for range 100 {
				pick := below(len(p)+2) - 1
				if able, _ := prog.Able(p, picks); slices.Contains(able, pick) {
					effective = append(effective, pick)
				}
				picks = append(picks, pick)
			}
			end, _, _ := prog.Run(p, picks)
			if !end.Done && !end.Stuck {
				wantNoWay(t, p, end, api.ErrNone)
				continue
			}
			over++
			ends, _ := every.Ends(p)
			way, errno := every.Way(p, end)
			if !slices.Contains(ends, end) || slices.Compare(way, effective) > 0 || errno != api.OK {
				t.Errorf("Ends(%v) = %v, Way = %v, %d, but %v lead to %v", p, ends, way, errno, effective, end)
			}
		}
	}
	if over < 1000 {
		t.Errorf("only %d ends", over)
	}
}

// DOC.md: a program without races has one final state, up to the order of its locks and
// signals. Without those, it has just one.
func TestOneEndWithoutRaces(t *testing.T) {
	lists := cases.Lists(2, cases.Program("load x0; store x0; load x1; store x1; add 1; join t1")[0])
	forks := cases.Program("fork t1; fork t2")[0]
	racing := map[bool]int{}
	for _, first := range lists {
		for _, second := range lists {
			p := [][]api.Op{slices.Concat(forks, first), second, cases.Program("join t1; store x0; store x1")[0]}
			ends, _ := every.Ends(p)
			is, _, _ := every.Races(p)
			if racing[is]++; !is && len(ends) != 1 {
				t.Errorf("%v has no race, but the ends %v", p, ends)
			}
		}
	}
	if racing[true] < 100 || racing[false] < 100 {
		t.Errorf("too few programs: %v", racing)
	}
}
