package eval

import "evenpace/api"

// run is how far a program has come. Once it is over nothing changes any more.
type run struct {
	api.Ended
	over bool
	work int
	err  api.Errno
}

func (r *run) end(n int) {
	r.Word, r.over = n, true
}

func (r *run) fall() {
	r.Trap, r.over = true, true
}

// mayDo counts one more statement. A right program never does too many: this is so that others end, too.
func (r *run) mayDo() bool {
	if r.over {
		return false
	}
	r.work++
	if r.work > api.MaxWork {
		r.err, r.over = api.ErrMuch, true
	}
	return !r.over
}

// spot is the word at a place of an array; nil, and the run is over, if there is none. A place is a word, so it is not below 0.
func (r *run) spot(array, place int) *int {
	if array < 0 || place >= len(r.Arrays[array]) {
		r.fall()
		return nil
	}
	return &r.Arrays[array][place]
}
