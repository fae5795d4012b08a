package stripe

import (
	"runtime"
	"slices"
	"sync"
	"sync/atomic"
	"testing"
	"testing/synctest"

	"deadheat/api"
	"deadheat/cases"
	"deadheat/full"
)

// These tests look at the goroutines: no result tells which of them did what. In
// synctest.Test, goroutines that wait for ever fail at once.

// accessesOf returns the accesses of a trace.
func accessesOf(t *testing.T, l []api.Event) []full.Access {
	t.Helper()
	accesses, errno := full.Accesses(l)
	if errno != api.OK {
		t.Fatalf("Accesses(%v): %d", l, errno)
	}
	return accesses
}

// idle returns hands that have channels only: what is sent to them stays there.
func idle(hands int) []hand {
	crew := make([]hand, hands)
	for i := range crew {
		crew[i] = hand{make(chan full.Access, api.MaxEvents), make(chan api.Flag, api.MaxEvents)}
	}
	return crew
}

// received returns all that was sent to a channel, which must be closed.
func received[T any](from <-chan T) []T {
	var all []T
	for one := range from {
		all = append(all, one)
	}
	return all
}

// P32: the accesses of a variable are processed by the goroutine whose number is the
// variable modulo hands.

// The chapter's example.
func TestVariable5OfThreeHands(t *testing.T) {
	synctest.Test(t, func(t *testing.T) {
		accesses := accessesOf(t, cases.Events("t0 write x5; t0 read x5"))
		crew := idle(3)
		deal(accesses, crew)
		for i, want := range [][]full.Access{nil, nil, accesses} {
			if got := received(crew[i].accesses); !slices.Equal(got, want) {
				t.Errorf("hand %d: %v, want %v", i, got, want)
			}
		}
	})
}

func TestDeal(t *testing.T) {
	synctest.Test(t, func(t *testing.T) {
		l := cases.Events("t0 write x7; t0 fork t1; t1 read x7")
		for x := range 8 {
			l = append(l, api.Event{Kind: api.Read, Obj: x}, api.Event{Kind: api.Write, Thread: 1, Obj: 7 - x})
		}
		for _, l := range [][]api.Event{nil, l, cases.Long(80, 1), cases.Long(80, 2)} {
			accesses := accessesOf(t, l)
			for hands := 1; hands <= 8; hands++ {
				crew := idle(hands)
				deal(accesses, crew)
				for i, h := range crew {
					var want []full.Access
					for _, a := range accesses {
						if a.Obj%hands == i {
							want = append(want, a)
						}
					}
					if got := received(h.accesses); !slices.Equal(got, want) {
						t.Errorf("%d hands, hand %d: %v, want %v", hands, i, got, want)
					}
				}
			}
		}
	})
}

// P32: all goroutines run in parallel.

// Each hand sends its flags when none of the others has received anything, or is at
// its end.
func TestHandsDoNotWaitForEachOther(t *testing.T) {
	synctest.Test(t, func(t *testing.T) {
		for hands := 1; hands <= 8; hands++ {
			crew := begin(hands, 2)
			for i := hands - 1; i >= 0; i-- {
				l := cases.Events("t0 fork t1; t0 write x0; t1 read x0")
				l[1].Obj, l[2].Obj = i, i
				for _, a := range accessesOf(t, l) {
					crew[i].accesses <- a
				}
				if got, want := <-crew[i].flags, (api.Flag{At: 2, Var: i, Kind: api.WriteRead}); got != want {
					t.Errorf("%d hands, hand %d: %v, want %v", hands, i, got, want)
				}
			}
			for i, h := range crew {
				close(h.accesses)
				if got := received(h.flags); got != nil {
					t.Errorf("%d hands, hand %d: %v at the end", hands, i, got)
				}
			}
		}
	})
}

func TestGather(t *testing.T) {
	crew := idle(3)
	for i, s := range []string{"3 x0 ww; 9 x3 wr; 80 x0 rw", "", "1 x2 rw; 4 x5 ww; 5 x5 ww; 10 x2 wr"} {
		for _, f := range cases.Flags(s) {
			crew[i].flags <- f
		}
		close(crew[i].flags)
	}
	want := cases.Flags("1 x2 rw; 3 x0 ww; 4 x5 ww; 5 x5 ww; 9 x3 wr; 10 x2 wr; 80 x0 rw")
	if got := gather(crew); !slices.Equal(got, want) {
		t.Errorf("%v, want %v", got, want)
	}
}

// P33: each trace is processed by one of a number of goroutines.

func TestEachJobIsDoneOnce(t *testing.T) {
	for hands := 1; hands <= 8; hands++ {
		for jobs := range 41 {
			done := make([]atomic.Int64, jobs)
			share(hands, jobs, func(job int) {
				for range job % 3 {
					runtime.Gosched()
				}
				done[job].Add(1)
			})
			for job := range done {
				if n := done[job].Load(); n != 1 {
					t.Errorf("%d hands, %d jobs: job %d done %d times", hands, jobs, job, n)
				}
			}
		}
	}
}

// A job that goes on until there are as many as there are hands ends only if they
// run in parallel.
func TestHandsShareInParallel(t *testing.T) {
	synctest.Test(t, func(t *testing.T) {
		for hands := 1; hands <= 8; hands++ {
			var begun sync.WaitGroup
			begun.Add(hands)
			share(hands, hands, func(int) {
				begun.Done()
				begun.Wait()
			})
		}
	})
}

func TestNoMoreHandsShare(t *testing.T) {
	for hands := 1; hands <= 8; hands++ {
		var now, tooMany atomic.Int64
		share(hands, 40, func(int) {
			if now.Add(1) > int64(hands) {
				tooMany.Add(1)
			}
			for range 10 {
				runtime.Gosched()
			}
			now.Add(-1)
		})
		if n := tooMany.Load(); n != 0 {
			t.Errorf("%d hands: more at the same time, %d times", hands, n)
		}
	}
}

// While one hand has a long job, the others take all that are left.
func TestHandsTakeTheNextJob(t *testing.T) {
	synctest.Test(t, func(t *testing.T) {
		for hands := 2; hands <= 8; hands++ {
			for long := range 40 {
				var short atomic.Int64
				rest := make(chan bool)
				share(hands, 40, func(job int) {
					if job == long {
						<-rest
					} else if short.Add(1) == 39 {
						close(rest)
					}
				})
			}
		}
	})
}

func TestOneHandTakesJobsInOrder(t *testing.T) {
	var jobs []int
	share(1, 40, func(job int) { jobs = append(jobs, job) })
	if len(jobs) != 40 || !slices.IsSorted(jobs) || jobs[0] != 0 || jobs[39] != 39 {
		t.Errorf("%v", jobs)
	}
}
