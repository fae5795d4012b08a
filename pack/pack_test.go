package pack_test

import (
	"math"
	"slices"
	"strings"
	"sync"
	"testing"

	"deadheat/api"
	"deadheat/pack"
	"deadheat/trace"
)

// limits has, for each kind, how many objects there are (index 0: no kind).
var limits = []int{0, 8, 8, 5, 5, 6, 6, 4, 4}

func read(t, x int) api.Event    { return api.Event{Kind: 1, Thread: t, Obj: x} }
func write(t, x int) api.Event   { return api.Event{Kind: 2, Thread: t, Obj: x} }
func acquire(t, m int) api.Event { return api.Event{Kind: 3, Thread: t, Obj: m} }
func release(t, m int) api.Event { return api.Event{Kind: 4, Thread: t, Obj: m} }
func fork(t, o int) api.Event    { return api.Event{Kind: 5, Thread: t, Obj: o} }
func join(t, o int) api.Event    { return api.Event{Kind: 6, Thread: t, Obj: o} }
func see(t, v int) api.Event     { return api.Event{Kind: 7, Thread: t, Obj: v} }
func show(t, v int) api.Event    { return api.Event{Kind: 8, Thread: t, Obj: v} }

func list(events ...api.Event) []api.Event { return events }

// with returns l with more events, in new memory.
func with(l []api.Event, events ...api.Event) []api.Event {
	return slices.Concat(l, events)
}

func reads(n int) []api.Event {
	return slices.Repeat(list(read(0, 0)), n)
}

// forks is a trace after which all threads have begun.
func forks() []api.Event {
	return list(fork(0, 1), fork(0, 2), fork(0, 3), fork(0, 4), fork(0, 5))
}

// allEvents returns every event that is in range.
func allEvents() []api.Event {
	var events []api.Event
	for thread := range 6 {
		for kind := 1; kind <= 8; kind++ {
			for obj := range limits[kind] {
				events = append(events, api.Event{Kind: kind, Thread: thread, Obj: obj})
			}
		}
	}
	return events
}

// summed returns the bytes with their checksum behind them.
func summed(body string) string {
	sum := 0
	for _, b := range []byte(body) {
		sum += int(b)
	}
	return body + string([]byte{byte(sum / 256 % 256), byte(sum % 256)})
}

// bodyOf returns what stands in front of the checksum of a list that need not be a trace.
func bodyOf(l []api.Event) string {
	body := []byte{'D', byte(len(l))}
	for _, e := range l {
		body = append(body, byte(8*e.Thread+e.Kind-1), byte(e.Obj))
	}
	return string(body)
}

// traces returns traces by their encodings.
func traces() map[string][]api.Event {
	return map[string][]api.Event{
		"D\x00\x00\x44":                                               nil,
		"D\x01\x00\x00\x00\x45":                                       list(read(0, 0)),
		"D\x01\x01\x07\x00\x4d":                                       list(write(0, 7)),
		"D\x01\x02\x04\x00\x4b":                                       list(acquire(0, 4)),
		"D\x02\x02\x03\x03\x03\x00\x51":                               list(acquire(0, 3), release(0, 3)),
		"D\x01\x04\x05\x00\x4e":                                       list(fork(0, 5)),
		"D\x02\x04\x02\x15\x00\x00\x61":                               list(fork(0, 2), join(2, 0)),
		"D\x01\x06\x03\x00\x4e":                                       list(see(0, 3)),
		"D\x01\x07\x02\x00\x4e":                                       list(show(0, 2)),
		"D\x02\x04\x05\x2f\x03\x00\x81":                               list(fork(0, 5), show(5, 3)),
		"D\x02\x04\x04\x21\x06\x00\x75":                               list(fork(0, 4), write(4, 6)),
		"D\x02\x04\x03\x1a\x00\x00\x67":                               list(fork(0, 3), acquire(3, 0)),
		"D\x02\x00\x01\x00\x01\x00\x48":                               list(read(0, 1), read(0, 1)),
		"D\x03\x04\x01\x01\x00\x09\x00\x00\x56":                       list(fork(0, 1), write(0, 0), write(1, 0)),
		"D\x05\x04\x05\x2f\x03\x2f\x03\x2f\x03\x2f\x03\x01\x1a":       with(list(fork(0, 5)), slices.Repeat(list(show(5, 3)), 4)...),
		"D\x50" + strings.Repeat("\x00\x00", 80) + "\x00\x94":         reads(80),
		"D\x50" + strings.Repeat("\x02\x04\x03\x04", 40) + "\x02\x9c": slices.Repeat(list(acquire(0, 4), release(0, 4)), 40),
	}
}

// invalid returns lists with each error of trace.Check.
func invalid() map[api.Errno][]api.Event {
	return map[api.Errno][]api.Event{
		api.ErrLarge: reads(81),
		api.ErrArg:   list(acquire(0, 2), read(0, 8)),
		api.ErrState: list(fork(0, 1), read(2, 0)),
		api.ErrHeld:  list(acquire(0, 2), acquire(0, 2)),
		api.ErrFree:  list(acquire(0, 2), release(0, 1)),
		api.ErrTwice: list(fork(0, 1), fork(0, 1)),
		api.ErrNone:  list(read(0, 0), join(0, 0)),
	}
}

func wantPack(t *testing.T, l []api.Event, want string, wantErrno api.Errno) {
	t.Helper()
	if got, errno := pack.Pack(l); got != want || errno != wantErrno {
		t.Errorf("Pack(%v) = %q, %d, want %q, %d", l, got, errno, want, wantErrno)
	}
}

func wantRead(t *testing.T, s string, want []api.Event) {
	t.Helper()
	if got, errno := pack.Read(s); !slices.Equal(got, want) || errno != api.OK {
		t.Errorf("Read(%q) = %v, %d, want %v, 0", s, got, errno, want)
	}
}

func wantReadError(t *testing.T, s string, want api.Errno) {
	t.Helper()
	if got, errno := pack.Read(s); len(got) != 0 || errno != want {
		t.Errorf("Read(%q) = %v, %d, want none, %d", s, got, errno, want)
	}
}

// P10: Pack

func TestPack(t *testing.T) {
	for s, l := range traces() {
		wantPack(t, l, s, api.OK)
	}
	wantPack(t, list(), "D\x00\x00\x44", api.OK)
}

func TestPackOfEachEvent(t *testing.T) {
	for _, e := range allEvents() {
		l := with(forks(), e)
		if e.Kind == api.Release {
			l = with(forks(), acquire(e.Thread, e.Obj), e)
		}
		if _, errno := trace.Check(l); errno != api.OK {
			wantPack(t, l, "", errno)
			continue
		}
		wantPack(t, l, summed(bodyOf(l)), api.OK)
	}
}

func TestPackOfEachLength(t *testing.T) {
	for n := range 81 {
		s, errno := pack.Pack(reads(n))
		if len(s) != 4+2*n || errno != api.OK || s != summed("D"+string([]byte{byte(n)})+strings.Repeat("\x00", 2*n)) {
			t.Errorf("Pack of %d Reads = %q, %d", n, s, errno)
		}
		wantRead(t, s, reads(n))
	}
}

func TestPackErrors(t *testing.T) {
	for errno, l := range invalid() {
		wantPack(t, l, "", errno)
	}
	for _, n := range []int{81, 82, 255, 256, 257, 300} {
		wantPack(t, reads(n), "", api.ErrLarge)
	}
	for kind := 1; kind <= 8; kind++ {
		for _, bad := range []int{math.MinInt, -256, -1, 256, 1 << 32, math.MaxInt} {
			wantPack(t, list(api.Event{Kind: kind, Obj: bad}), "", api.ErrArg)
			wantPack(t, list(api.Event{Kind: kind, Thread: bad}), "", api.ErrArg)
		}
		wantPack(t, list(api.Event{Kind: kind, Obj: limits[kind]}), "", api.ErrArg)
		wantPack(t, list(api.Event{Kind: kind, Thread: 6}), "", api.ErrArg)
	}
	for _, kind := range []int{math.MinInt, -255, -1, 0, 9, 16, 257, 1<<32 + 1, math.MaxInt} {
		wantPack(t, list(api.Event{Kind: kind}), "", api.ErrArg)
	}
}

// The first byte of these would be that of an event in range.
func TestPackOfKindOfOtherThread(t *testing.T) {
	for kind := 1; kind <= 8; kind++ {
		wantPack(t, list(api.Event{Kind: kind + 8, Thread: -1}), "", api.ErrArg)
		wantPack(t, list(fork(0, 1), api.Event{Kind: kind + 8}), "", api.ErrArg)
		wantPack(t, list(fork(0, 1), api.Event{Kind: kind - 8, Thread: 1}), "", api.ErrArg)
		wantPack(t, list(api.Event{Kind: kind, Thread: 32}), "", api.ErrArg)
	}
}

func TestPackReturnsFirstError(t *testing.T) {
	wantPack(t, list(acquire(0, 2), acquire(0, 2), read(0, 8)), "", api.ErrHeld)
	wantPack(t, list(read(3, 8), acquire(0, 2)), "", api.ErrArg)
	wantPack(t, append(reads(80), api.Event{}), "", api.ErrLarge)
}

// P10: Read

func TestRead(t *testing.T) {
	for s, l := range traces() {
		wantRead(t, s, l)
	}
}

func TestReadOfPack(t *testing.T) {
	for _, a := range allEvents() {
		for _, b := range allEvents() {
			l := with(forks(), acquire(1, 0), acquire(2, 1), a, b)
			s, errno := pack.Pack(l)
			if _, want := trace.Check(l); errno != want {
				t.Errorf("Pack(%v): %d, want %d", l, errno, want)
			}
			if errno == api.OK {
				wantRead(t, s, l)
			} else {
				wantReadError(t, summed(bodyOf(l)), api.ErrForm)
			}
		}
	}
}

// ErrShort is before the other errors: few of these strings have a right
// checksum, and none of them is an encoding.
func TestReadOfFewerThanFourBytes(t *testing.T) {
	for _, s := range []string{"", "D", "D\x00", "D\x00\x00", "D\x00\x44", "\x00\x00\x00", "\x44\x00\x44", "\x00", "\x00\x00", "E", "abc", "\xff\xff\xff"} {
		wantReadError(t, s, api.ErrShort)
	}
	for a := range 256 {
		wantReadError(t, string([]byte{byte(a)}), api.ErrShort)
		for b := range 256 {
			wantReadError(t, string([]byte{byte(a), byte(b)}), api.ErrShort)
			wantReadError(t, string([]byte{byte(a), byte(b), byte(b)}), api.ErrShort)
		}
	}
}

func TestReadOfWrongSum(t *testing.T) {
	for s := range traces() {
		body := s[:len(s)-2]
		for sum := range 1 << 16 {
			if other := body + string([]byte{byte(sum >> 8), byte(sum)}); other != s {
				wantReadError(t, other, api.ErrSum)
			}
		}
	}
	wantReadError(t, "D\x00\x44\x00", api.ErrSum) // the less significant byte first
}

// The checksum is looked at before anything else of a string that is long enough.
func TestErrSumIsBeforeErrForm(t *testing.T) {
	wantReadError(t, "abcd", api.ErrSum)
	wantReadError(t, "E\x00\x00\x44", api.ErrSum)
	wantReadError(t, "D\x01\x00\x44", api.ErrSum)
	wantReadError(t, "D\x00\x00\x45", api.ErrSum)
	wantReadError(t, "D\x01\x00\x08\x00\x45", api.ErrSum)
	wantReadError(t, "D\x00\x00\x44\x00", api.ErrSum)
	wantReadError(t, "D\x00\x00\x44\x00\x44", api.ErrSum)
	for _, l := range invalid() {
		wantReadError(t, bodyOf(l)+"\x00\x00", api.ErrSum)
	}
	wantReadError(t, strings.Repeat("\xff", 100000), api.ErrSum)
}

func TestReadOfOtherMark(t *testing.T) {
	for s, l := range traces() {
		for mark := range 256 {
			other := summed(string([]byte{byte(mark)}) + s[1:len(s)-2])
			if mark == 'D' {
				wantRead(t, other, l)
			} else {
				wantReadError(t, other, api.ErrForm)
			}
		}
	}
	wantReadError(t, "E\x00\x00\x45", api.ErrForm)
	wantReadError(t, "d\x00\x00\x64", api.ErrForm)
	wantReadError(t, "\x00\x00\x00\x00", api.ErrForm)
}

// The number of events must be that of the bytes that follow, two for each.
func TestReadOfOtherNumberOfEvents(t *testing.T) {
	for length := range 600 {
		for n := range 256 {
			s := summed("D" + string([]byte{byte(n)}) + strings.Repeat("\x00", length))
			if length == 2*n && n <= 80 {
				wantRead(t, s, reads(n))
			} else {
				wantReadError(t, s, api.ErrForm)
			}
		}
	}
}

func TestReadOfMoreOrFewerBytes(t *testing.T) {
	for s := range traces() {
		body := s[:len(s)-2]
		for i := range len(body) {
			if i >= 2 {
				wantReadError(t, summed(body[:i]), api.ErrForm)
			}
		}
		for _, more := range []string{"\x00", "\x01", "\x00\x00", "\x00\x00\x00", "D", s, body} {
			wantReadError(t, summed(body+more), api.ErrForm)
		}
	}
	wantReadError(t, summed("D\x00\x00"), api.ErrForm)
	wantReadError(t, summed("D\x01\x00"), api.ErrForm)
	wantReadError(t, summed("D\x01\x00\x00\x00"), api.ErrForm)
}

// Every value of the two bytes of an event is looked at where all threads have
// begun and where only thread 0 has.
func TestReadOfEachPairOfBytes(t *testing.T) {
	encodings := map[string][]api.Event{}
	for _, before := range [][]api.Event{nil, with(forks(), acquire(3, 2))} {
		for _, e := range allEvents() {
			l := with(before, e)
			if _, errno := trace.Check(l); errno == api.OK {
				encodings[summed(bodyOf(l))] = l
			}
		}
		for first := range 256 {
			for second := range 256 {
				body := []byte(bodyOf(before))
				body[1]++
				s := summed(string(append(body, byte(first), byte(second))))
				if l, ok := encodings[s]; ok {
					wantRead(t, s, l)
				} else {
					wantReadError(t, s, api.ErrForm)
				}
			}
		}
	}
}

// The errors of trace.Check are ErrForm here.
func TestReadOfWhatIsNoTrace(t *testing.T) {
	for _, l := range invalid() {
		wantReadError(t, summed(bodyOf(l)), api.ErrForm)
	}
	for n := 81; n <= 255; n++ {
		wantReadError(t, summed(bodyOf(reads(n))), api.ErrForm)
	}
	wantReadError(t, summed(bodyOf(reads(256))), api.ErrForm)
	wantReadError(t, summed(bodyOf(reads(257))), api.ErrForm)
}

// The sum of long strings is that of their bytes modulo 65536.
func TestReadOfLongStrings(t *testing.T) {
	for _, n := range []int{255, 256, 257, 258, 300, 1000, 65536, 1000000} {
		body := strings.Repeat("\xff", n)
		sum := 255 * n % 65536
		wantReadError(t, body+string([]byte{byte(sum >> 8), byte(sum)}), api.ErrForm)
		wantReadError(t, body+string([]byte{byte(sum >> 8), byte(sum) + 1}), api.ErrSum)
		wantReadError(t, summed("D\x50"+body), api.ErrForm)
	}
}

// P1 and P2

func TestNoArgumentsPanic(t *testing.T) {
	defer func() {
		if p := recover(); p != nil {
			t.Errorf("panic: %v", p)
		}
	}()
	numbers := []int{math.MinInt, -1, 0, 1, 3, 5, 6, 8, 9, 63, 64, 256, 1 << 32, math.MaxInt}
	for _, kind := range append([]int{2, 4, 7}, numbers...) {
		for _, thread := range numbers {
			for _, obj := range numbers {
				pack.Pack(list(fork(0, 1), api.Event{Kind: kind, Thread: thread, Obj: obj}))
			}
		}
	}
	for n := range 400 {
		for _, b := range []string{"\x00", "\x01", "D", "\x7f", "\x80", "\xff"} {
			s := strings.Repeat(b, n)
			pack.Read(s)
			pack.Read(summed(s))
			pack.Read(summed("D" + s))
		}
	}
}

func TestArgumentsAreNotModified(t *testing.T) {
	l := append(list(fork(0, 5), acquire(5, 2), read(5, 1), join(0, 5)), slices.Repeat(list(acquire(1, 4)), 90)...)
	want := slices.Clone(l)
	for _, n := range []int{0, 2, 4, len(l)} {
		pack.Pack(l[:n])
		if !slices.Equal(l, want) {
			t.Fatalf("modified: %v", l)
		}
	}
}

func TestEventsAreNewlyAllocated(t *testing.T) {
	for s, l := range traces() {
		first, _ := pack.Read(s)
		second, _ := pack.Read(s)
		clear(first[:cap(first)])
		if !slices.Equal(second, l) {
			t.Errorf("changed with another result: %v", second)
		}
		wantRead(t, s, l)
	}
}

// Calls at the same time, and after other ones, show a state that is kept between calls.
func TestResultsDependOnlyOnArguments(t *testing.T) {
	var group sync.WaitGroup
	for range 4 {
		group.Go(func() {
			for range 100 {
				for s, l := range traces() {
					wantPack(t, l, s, api.OK)
					wantRead(t, s, l)
				}
				for errno, l := range invalid() {
					wantPack(t, l, "", errno)
					wantReadError(t, summed(bodyOf(l)), api.ErrForm)
				}
				wantReadError(t, "D\x00", api.ErrShort)
				wantReadError(t, "D\x00\x00\x45", api.ErrSum)
			}
		})
	}
	group.Wait()
}
