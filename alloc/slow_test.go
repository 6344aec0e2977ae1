package alloc_test

import (
	"slices"

	"caulker/api"
)

// slow is a ledger as the chapters' words have it, the long way: a list of those that are free, and one of those that are not.
type slow struct {
	devs       int
	free, used []api.Addr
}

func newSlow(devs, sectors int, used ...api.Addr) *slow {
	s := &slow{devs: devs, free: places(devs, sectors)}
	for _, x := range used {
		if slices.Contains(s.free, x) {
			s.free, s.used = moved(s.free, s.used, x)
		}
	}
	return s
}

// moved takes x out of one list and puts it in another one; both rise.
func moved(from, to []api.Addr, x api.Addr) (less, more []api.Addr) {
	for _, y := range from {
		if y != x {
			less = append(less, y)
		}
	}
	more = append(slices.Clone(to), x)
	slices.SortFunc(more, func(a, b api.Addr) int { return (a.Dev-b.Dev)*10000 + a.At - b.At })
	return less, more
}

func (s *slow) Free() []int {
	l := make([]int, s.devs)
	for _, x := range s.free {
		l[x.Dev]++
	}
	return l
}

// Take asks again and again which device that is there, and was not chosen, has the most room.
func (s *slow) Take(there []bool, copies int) ([]api.Addr, api.Errno) {
	if len(there) != s.devs || copies < 1 || copies > 3 {
		return nil, api.ErrArg
	}
	up := 0
	for _, is := range there {
		if is {
			up++
		}
	}
	wanted, room := min(copies, up), s.Free()
	var l []api.Addr
	for range wanted {
		best := -1
		for dev, is := range there {
			if is && room[dev] > 0 && (best < 0 || room[dev] > room[best]) {
				best = dev
			}
		}
		if best < 0 {
			return nil, api.ErrNoSpace
		}
		room[best] = 0
		l = append(l, s.least(best))
	}
	if wanted == 0 {
		return nil, api.ErrNoSpace
	}
	for _, x := range l {
		s.free, s.used = moved(s.free, s.used, x)
	}
	return l, api.OK
}

// least is the first free place of a device.
func (s *slow) least(dev int) api.Addr {
	return s.free[slices.IndexFunc(s.free, func(x api.Addr) bool { return x.Dev == dev })]
}

// Room takes, out of a twin, till that is refused.
func (s *slow) Room(there []bool, copies int) (int, api.Errno) {
	twin := &slow{s.devs, slices.Clone(s.free), slices.Clone(s.used)}
	for n := 0; ; n++ {
		switch _, e := twin.Take(there, copies); e {
		case api.ErrNoSpace:
			return n, api.OK
		case api.ErrArg:
			return 0, e
		}
	}
}

func (s *slow) Mark(l []api.Addr) (e api.Errno) {
	s.free, s.used, e = shifted(s.free, s.used, l)
	return e
}

func (s *slow) Release(l []api.Addr) (e api.Errno) {
	s.used, s.free, e = shifted(s.used, s.free, l)
	return e
}

// shifted takes all of l out of one list and puts them in another one, if each is there, and stands there once.
func shifted(from, to, l []api.Addr) (less, more []api.Addr, e api.Errno) {
	for i, x := range l {
		if !slices.Contains(from, x) || slices.Contains(l[:i], x) {
			return from, to, api.ErrArg
		}
	}
	for _, x := range l {
		from, to = moved(from, to, x)
	}
	return from, to, api.OK
}
