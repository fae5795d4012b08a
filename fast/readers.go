package fast

import (
	"deadheat/api"
	"deadheat/clock"
)

// readers are the last readers of a variable (R): a single or several.
type readers interface {
	// known reports whether a thread whose clock is own knows all of them.
	known(own api.Clock) bool
	// with returns the readers after a Read in the epoch now by such a thread.
	with(now api.Epoch, own api.Clock) readers
}

// single is R as an epoch.
type single struct{ api.Epoch }

func (s single) known(own api.Clock) bool {
	return clock.Seen(s.Epoch, own)
}

// A reader that the next one knows can be forgotten: whoever knows the next one
// knows both.
func (s single) with(now api.Epoch, own api.Clock) readers {
	if s.known(own) {
		return single{now}
	}
	var both several
	both[s.Thread], both[now.Thread] = s.N, now.N
	return both
}

// several is R as a clock.
type several api.Clock

func (s several) known(own api.Clock) bool {
	return clock.Within(api.Clock(s), own)
}

func (s several) with(now api.Epoch, own api.Clock) readers {
	s[now.Thread] = now.N
	return s
}

func isClock(r readers) bool {
	_, is := r.(several)
	return is
}
