package cursor

import "quantum/api"

// rest is what is left of an object's bytes: for a reader those that it has, for a writer those that its limit allows.
type rest struct {
	made bool // false for a zero value only, which is no object
	at   int  // the place: how many bytes are behind it
	end  int  // the place when nothing is left, never less than at
}

// left returns how many bytes are left.
func (r *rest) left() int { return r.end - r.at }

// pass moves the place behind n bytes, if so many are left.
func (r *rest) pass(n int) bool {
	if n > r.left() {
		return false
	}
	r.at += n
	return true
}

// attempt does a step that takes a number, and undoes it if the number is not right: then nothing is taken.
func (r *rest) attempt(step func() (uint64, api.Errno), right func(x uint64) api.Errno) (uint64, api.Errno) {
	before := r.at
	x, e := step()
	if e == api.OK {
		e = right(x)
	}
	if e != api.OK {
		r.at = before
		return 0, e
	}
	return x, api.OK
}
