package mirror

import (
	"iter"

	"caulker/api"
	"caulker/hash"
)

// look is what a copy came to as it was looked at: its bytes, if it is good; else why it is not: ErrCorrupt, if it is bad, or what the array refused it for.
type look struct {
	bytes []byte
	err   api.Errno
}

// looks looks at copies one by one, each as it is asked for: those behind the one at which the range is left are not looked at.
func (m *Mirror) looks(addrs []api.Addr, sum api.ID) iter.Seq2[api.Addr, look] {
	return func(yield func(api.Addr, look) bool) {
		for _, at := range addrs {
			if !yield(at, m.lookAt(at, sum)) {
				return
			}
		}
	}
}

func (m *Mirror) lookAt(at api.Addr, sum api.ID) look {
	b, e := m.array.Read(at.Dev, at.At)
	switch {
	case e == api.ErrIO:
		m.count(at.Dev, (*tally).refused)
	case e == api.OK && hash.Sum(b) != sum:
		m.count(at.Dev, (*tally).spoiled)
		b, e = nil, api.ErrCorrupt
	}
	return look{bytes: b, err: e}
}

// firstGood looks at copies till one is good, and tells its bytes, and which ones ahead of it are bad.
func (m *Mirror) firstGood(addrs []api.Addr, sum api.ID) ([]byte, []api.Addr, api.Errno) {
	var bad []api.Addr
	for at, l := range m.looks(addrs, sum) {
		switch l.err {
		case api.OK:
			return l.bytes, bad, api.OK
		case api.ErrBroken:
			return nil, nil, api.ErrBroken
		case api.ErrCorrupt:
			bad = append(bad, at)
		}
	}
	if len(bad) > 0 {
		return nil, nil, api.ErrCorrupt
	}
	return nil, nil, api.ErrIO
}

// heal writes bad copies anew, and tells how many took it; one that does not is left as it is.
func (m *Mirror) heal(bad []api.Addr, b []byte) int {
	n := 0
	for _, at := range bad {
		if m.array.Write(at.Dev, at.At, b) == api.OK {
			m.count(at.Dev, (*tally).healed)
			n++
		}
	}
	return n
}
