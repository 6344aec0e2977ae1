package alloc

import "caulker/api"

// queue is where a device's free places wait, the least one first. It has room for all of them, so that nobody who sends one waits.
type queue chan int

// next takes out the least one; false: none waits.
func (q queue) next() (int, bool) {
	select {
	case at := <-q:
		return at, true
	default:
		return 0, false
	}
}

// line lets all that are not used wait anew: one that has become free belongs in the midst of the others.
func (q queue) line(used bits) {
	for waits := true; waits; {
		_, waits = q.next()
	}
	for i := range cap(q) {
		if at := api.First + i; !used.has(at) {
			q <- at
		}
	}
}
