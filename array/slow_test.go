package array_test

import (
	"bytes"
	"slices"
	"testing"

	"caulker/api"
	"caulker/array"
)

// laid is a loose write.
type laid struct {
	dev, at int
	b       []byte
}

// slow is an array as the chapter's words have it, the long way: what a sector tells is looked for in the row each time.
type slow struct {
	firm          [][][]byte // a device that is gone has none
	row           []laid
	loses         map[int]bool
	strays, fails map[int]int
	fuse          *int
	out           bool
	sectors, done int
}

func newSlow(devs, sectors int) *slow {
	s := &slow{sectors: sectors}
	s.calm()
	for range devs {
		s.firm = append(s.firm, noughts(sectors))
	}
	return s
}

func noughts(sectors int) [][]byte {
	l := make([][]byte, sectors)
	for i := range l {
		l[i] = make([]byte, 256)
	}
	return l
}

// calm ends all that a crash ends.
func (s *slow) calm() {
	s.row, s.loses, s.strays, s.fails, s.fuse, s.out = nil, map[int]bool{}, map[int]int{}, map[int]int{}, nil, false
}

func (s *slow) isDev(dev int) bool    { return dev >= 0 && dev < len(s.firm) }
func (s *slow) isAt(dev, at int) bool { return s.isDev(dev) && at >= 0 && at < s.sectors }
func (s *slow) isGone(dev int) bool   { return s.firm[dev] == nil }

func (s *slow) tells(dev, at int) []byte {
	for i := len(s.row) - 1; i >= 0; i-- {
		if s.row[i].dev == dev && s.row[i].at == at {
			return s.row[i].b
		}
	}
	return s.firm[dev][at]
}

func (s *slow) Read(dev, at int) ([]byte, api.Errno) {
	switch {
	case s.out:
		return nil, api.ErrBroken
	case !s.isAt(dev, at):
		return nil, api.ErrRange
	case s.isGone(dev):
		return nil, api.ErrGone
	case s.fails[dev] > 0:
		s.fails[dev]--
		return nil, api.ErrIO
	}
	return s.tells(dev, at), api.OK
}

// step tells whether one more step is done.
func (s *slow) step() bool {
	if s.fuse != nil && *s.fuse == s.done {
		s.out = true
		return false
	}
	s.done++
	return true
}

func (s *slow) Write(dev, at int, b []byte) api.Errno {
	switch {
	case s.out:
		return api.ErrBroken
	case !s.isAt(dev, at):
		return api.ErrRange
	case len(b) != 256:
		return api.ErrArg
	case s.isGone(dev):
		return api.ErrGone
	case !s.step():
		return api.ErrBroken
	}
	if s.loses[dev] {
		s.loses[dev] = false
		return api.OK
	}
	if to, is := s.strays[dev]; is {
		delete(s.strays, dev)
		at = to
	}
	s.row = append(s.row, laid{dev, at, slices.Clone(b)})
	return api.OK
}

func (s *slow) Flush(dev int) api.Errno {
	switch {
	case s.out:
		return api.ErrBroken
	case !s.isDev(dev):
		return api.ErrRange
	case s.isGone(dev):
		return api.ErrGone
	case !s.step():
		return api.ErrBroken
	}
	for _, w := range s.row {
		if w.dev == dev {
			s.firm[dev][w.at] = w.b
		}
	}
	s.forget(dev)
	return api.OK
}

func (s *slow) forget(dev int) {
	s.row = slices.DeleteFunc(s.row, func(w laid) bool { return w.dev == dev })
}

// Fuse keeps how many steps there will have been.
func (s *slow) Fuse(n int) api.Errno {
	switch {
	case s.out:
		return api.ErrBroken
	case n < 0:
		return api.ErrArg
	}
	n += s.done
	s.fuse = &n
	return api.OK
}

func (s *slow) Crash(keep []bool, torn int) api.Errno {
	if torn < 0 || torn > 255 {
		return api.ErrArg
	}
	first := true
	for i, w := range s.row {
		if i < len(keep) && keep[i] {
			s.firm[w.dev][w.at] = w.b
		} else if first {
			s.firm[w.dev][w.at] = joined(w.b, s.firm[w.dev][w.at], torn)
			first = false
		}
	}
	s.calm()
	return api.OK
}

func (s *slow) Spoil(dev, at, place int, mask byte) api.Errno {
	switch {
	case !s.isAt(dev, at) || place < 0 || place > 255:
		return api.ErrRange
	case s.isGone(dev):
		return api.ErrGone
	}
	b := slices.Clone(s.firm[dev][at])
	b[place] ^= mask
	s.firm[dev][at] = b
	return api.OK
}

// may tells what a device can't be befallen for.
func (s *slow) may(there, arg bool, dev int) api.Errno {
	switch {
	case !there:
		return api.ErrRange
	case !arg:
		return api.ErrArg
	case s.isGone(dev):
		return api.ErrGone
	}
	return api.OK
}

func (s *slow) Lose(dev int) api.Errno {
	e := s.may(s.isDev(dev), true, dev)
	if e == api.OK {
		s.loses[dev] = true
	}
	return e
}

func (s *slow) Stray(dev, at int) api.Errno {
	e := s.may(s.isAt(dev, at), true, dev)
	if e == api.OK {
		s.strays[dev] = at
	}
	return e
}

func (s *slow) Fail(dev, n int) api.Errno {
	e := s.may(s.isDev(dev), n >= 0, dev)
	if e == api.OK {
		s.fails[dev] = n
	}
	return e
}

func (s *slow) Pull(dev int) api.Errno {
	e := s.may(s.isDev(dev), true, dev)
	if e == api.OK {
		s.forget(dev)
		s.firm[dev] = nil
	}
	return e
}

func (s *slow) Fit(dev int) api.Errno {
	if !s.isDev(dev) {
		return api.ErrRange
	}
	s.forget(dev)
	s.firm[dev] = noughts(s.sectors)
	delete(s.loses, dev)
	delete(s.strays, dev)
	delete(s.fails, dev)
	return api.OK
}

func (s *slow) Up(dev int) bool { return s.isDev(dev) && !s.isGone(dev) && !s.out }

func (s *slow) Peek(dev, at int) ([]byte, bool) {
	if !s.Up(dev) || !s.isAt(dev, at) {
		return nil, false
	}
	return s.tells(dev, at), true
}

// same demands that all that can be asked of both is the same, but for Read, which is a call that changes.
func same(t testing.TB, what string, a *array.Array, s *slow) {
	t.Helper()
	if a.Devs() != len(s.firm) || a.Sectors() != s.sectors || a.Loose() != len(s.row) || a.Steps() != s.done {
		t.Fatalf("%s: Devs %d, Sectors %d, Loose %d, Steps %d; want %d, %d, %d, %d", what, a.Devs(), a.Sectors(), a.Loose(), a.Steps(), len(s.firm), s.sectors, len(s.row), s.done)
	}
	for dev := range s.firm {
		if a.Up(dev) != s.Up(dev) {
			t.Fatalf("%s: Up(%d): %t", what, dev, a.Up(dev))
		}
		for at := range s.sectors {
			got, is := a.Peek(dev, at)
			want, wanted := s.Peek(dev, at)
			if is != wanted || !bytes.Equal(got, want) {
				t.Fatalf("%s: Peek(%d, %d): %s, %t; want %s, %t", what, dev, at, text(got), is, text(want), wanted)
			}
		}
	}
}
