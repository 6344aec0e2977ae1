package field

import (
	"slices"

	"caulker/api"
)

// Reader reads bytes. Open makes it.
type Reader struct {
	self  *Reader // itself: so that one that Open did not make, a copy too, is told apart
	b     []byte
	at    int
	fault api.Fault
}

// gaveUp is what a reader panics with where it can't read on.
type gaveUp struct{ fault api.Fault }

// Open begins to read.
func Open(b []byte) *Reader {
	r := &Reader{b: slices.Clone(b)}
	r.self = r
	return r
}

func (r *Reader) made() bool { return r != nil && r.self == r }

// unlessFaulty does step only as long as there is no fault, and is the one place where giving up is recovered.
// A step moves the reader and tells what it read at its end alone, so that one that gives up leaves both as they were.
func (r *Reader) unlessFaulty(step func()) {
	if !r.made() || r.fault.Err != api.OK {
		return
	}
	defer func() {
		switch x := recover().(type) {
		case nil:
		case gaveUp:
			r.fault = x.fault
		default: // a mistake of this program, which must not pass for a good read
			panic(x)
		}
	}()
	step()
}

// Num reads a number of a size, from low to high.
func (r *Reader) Num(size, low, high int) int {
	var n int
	r.unlessFaulty(func() {
		demand(isSize(size), api.ErrArg, r.at)
		x := bytesAsNumber(r.ahead(size))
		demand(x >= low && x <= high, api.ErrRange, r.at)
		n = x
		r.at += size
	})
	return n
}

// Text reads a text of a most.
func (r *Reader) Text(most int) string {
	var s string
	r.unlessFaulty(func() {
		demand(isMost(most), api.ErrArg, r.at)
		room := r.ahead(1 + most)
		end := 1 + int(room[0])
		demand(end <= len(room), api.ErrLong, r.at)
		demandNoughts(room[end:], r.at+end)
		s = string(room[1:end])
		r.at += len(room)
	})
	return s
}

// Raw reads bytes as they are.
func (r *Reader) Raw(n int) []byte {
	var b []byte
	r.unlessFaulty(func() {
		demand(n >= 0, api.ErrArg, r.at)
		b = slices.Clone(r.ahead(n))
		r.at += n
	})
	return b
}

// Rest reads all that is left, which must be noughts.
func (r *Reader) Rest() {
	r.unlessFaulty(func() {
		demandNoughts(r.b[r.at:], r.at)
		r.at = len(r.b)
	})
}

// At tells the place: behind a fault, where what was not read begins.
func (r *Reader) At() int {
	if !r.made() {
		return 0
	}
	return r.at
}

// Left tells how many bytes are behind the place.
func (r *Reader) Left() int {
	if !r.made() {
		return 0
	}
	return len(r.b) - r.at
}

// Fault tells the fault, or none.
func (r *Reader) Fault() api.Fault {
	if !r.made() {
		return api.Fault{Err: api.ErrNil}
	}
	return r.fault
}

// End tells whether all was read without a fault.
func (r *Reader) End() api.Fault {
	if f := r.Fault(); f.Err != api.OK {
		return f
	}
	if r.Left() > 0 {
		return api.Fault{Err: api.ErrBytes, At: r.at}
	}
	return api.Fault{}
}

// ahead tells the next n bytes without moving; it gives up if they are not all there.
func (r *Reader) ahead(n int) []byte {
	demand(n <= r.Left(), api.ErrBytes, len(r.b))
	return r.b[r.at : r.at+n]
}

func demand(holds bool, e api.Errno, at int) {
	if !holds {
		panic(gaveUp{api.Fault{Err: e, At: at}})
	}
}

func demandNoughts(b []byte, at int) {
	i := slices.IndexFunc(b, func(x byte) bool { return x != 0 })
	demand(i < 0, api.ErrBytes, at+i)
}

func bytesAsNumber(b []byte) int {
	n := 0
	for _, x := range b {
		n = n<<8 | int(x)
	}
	return n
}
