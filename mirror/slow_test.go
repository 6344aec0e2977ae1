package mirror_test

import (
	"bytes"
	"crypto/sha256"

	"caulker/api"
	"caulker/array"
)

// slow is a mirror as the chapter's words have it, the long way, over an array of its own.
type slow struct {
	a      *array.Array
	errors map[int]api.Errors
}

func newSlow(a *array.Array) *slow { return &slow{a: a, errors: map[int]api.Errors{}} }

func (s *slow) add(dev, reads, sums, heals int) {
	e := s.errors[dev]
	s.errors[dev] = api.Errors{Reads: e.Reads + reads, Sums: e.Sums + sums, Heals: e.Heals + heals}
}

// has is whether a block may be at these addresses of the array.
func (s *slow) has(addrs []api.Addr) bool {
	if len(addrs) == 0 || len(addrs) > 3 {
		return false
	}
	for i, x := range addrs {
		if x.Dev < 0 || x.Dev >= s.a.Devs() || x.At < 5 || x.At >= s.a.Sectors() {
			return false
		}
		for j, y := range addrs {
			if i != j && x.Dev == y.Dev {
				return false
			}
		}
	}
	return true
}

func (s *slow) may(p api.Pointer) bool {
	return s.has(p.Addrs) && p.Birth >= 1 && p.Birth <= 2147483648 && p.Level >= 0 && p.Level <= 3
}

func (s *slow) Put(addrs []api.Addr, b []byte) (int, api.Errno) {
	if len(b) != 256 || !s.has(addrs) {
		return 0, api.ErrArg
	}
	n := 0
	for _, x := range addrs {
		e := s.a.Write(x.Dev, x.At, b)
		if e == api.ErrBroken {
			return 0, e
		}
		if e == api.OK {
			n++
		}
	}
	if n == 0 {
		return 0, api.ErrIO
	}
	return n, api.OK
}

func (s *slow) Flush() (int, api.Errno) {
	if s.out() {
		return 0, api.ErrBroken
	}
	n := 0
	for dev := 0; dev < s.a.Devs(); dev++ {
		if !s.a.Up(dev) {
			continue
		}
		if e := s.a.Flush(dev); e != api.OK {
			return 0, e
		}
		n++
	}
	if n == 0 {
		return 0, api.ErrIO
	}
	return n, api.OK
}

func (s *slow) out() bool {
	_, e := s.a.Read(-1, -1)
	return e == api.ErrBroken
}

// look tells a copy's bytes and whether it is good, or bad; neither: it can't be read.
func (s *slow) look(p api.Pointer, i int) (b []byte, isGood, isBad bool) {
	dev := p.Addrs[i].Dev
	b, e := s.a.Read(dev, p.Addrs[i].At)
	if e == api.ErrIO {
		s.add(dev, 1, 0, 0)
	}
	if e != api.OK {
		return nil, false, false
	}
	if sha256.Sum256(b) != p.Sum {
		s.add(dev, 0, 1, 0)
		return nil, false, true
	}
	return b, true, false
}

func (s *slow) heal(p api.Pointer, i int, b []byte) bool {
	dev := p.Addrs[i].Dev
	if s.a.Write(dev, p.Addrs[i].At, b) != api.OK {
		return false
	}
	s.add(dev, 0, 0, 1)
	return true
}

func (s *slow) Get(p api.Pointer) ([]byte, api.Errno) {
	if !s.may(p) {
		return nil, api.ErrArg
	}
	if s.out() {
		return nil, api.ErrBroken
	}
	bads := []int{}
	for i := range p.Addrs {
		b, isGood, isBad := s.look(p, i)
		if isBad {
			bads = append(bads, i)
		}
		if isGood {
			for _, j := range bads {
				s.heal(p, j, b)
			}
			return b, api.OK
		}
	}
	if len(bads) > 0 {
		return nil, api.ErrCorrupt
	}
	return nil, api.ErrIO
}

func (s *slow) Scan(p api.Pointer) (api.Scan, api.Errno) {
	if !s.may(p) {
		return api.Scan{}, api.ErrArg
	}
	if s.out() {
		return api.Scan{}, api.ErrBroken
	}
	var first []byte
	var goods, lost, healed int
	bads := []int{}
	for i := range p.Addrs {
		b, isGood, isBad := s.look(p, i)
		if isGood && goods == 0 {
			first = bytes.Clone(b)
		}
		if isGood {
			goods++
		} else if isBad {
			bads = append(bads, i)
		} else {
			lost++
		}
	}
	if goods > 0 {
		for _, j := range bads {
			if s.heal(p, j, first) {
				healed++
			}
		}
	}
	return api.Scan{Good: goods, Healed: healed, Bad: len(bads) - healed, Lost: lost}, api.OK
}

func (s *slow) Restore(p api.Pointer, dev int) api.Errno {
	if !s.may(p) {
		return api.ErrArg
	}
	its := -1
	for i, x := range p.Addrs {
		if x.Dev == dev {
			its = i
		}
	}
	if its < 0 {
		return api.ErrMissing
	}
	if !s.a.Up(dev) {
		return api.ErrGone
	}
	err := api.ErrIO
	for i := range p.Addrs {
		if i == its {
			continue
		}
		b, isGood, isBad := s.look(p, i)
		if isGood {
			return s.a.Write(dev, p.Addrs[its].At, b)
		}
		if isBad {
			err = api.ErrCorrupt
		}
	}
	return err
}
