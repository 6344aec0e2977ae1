package addr_test

import (
	"math"
	"slices"
	"testing"

	"caulker/addr"
	"caulker/api"
)

// dice is a row of numbers that looks like chance and is the same in each run.
type dice uint64

func (d *dice) below(n int) int {
	*d = *d*6364136223846793005 + 1442695040888963407
	return int(uint64(*d) >> 33 % uint64(n))
}

// number is one of few, so that addresses come twice, or are in two lists; at some no block may lie.
func (d *dice) number() int {
	l := []int{0, 1, 2, 5, 6, 7, -1, 4097, math.MinInt, math.MaxInt}
	return l[d.below(2+d.below(len(l)-1))]
}

func (d *dice) list() []api.Addr {
	var l []api.Addr
	for range d.below(9) {
		l = append(l, at(d.number(), d.number()))
	}
	return l
}

// chosen are those of some that are to be taken, each once, rising: found the long way, by looking at all for each place.
func chosen(l []api.Addr, take func(a api.Addr) bool) []api.Addr {
	var out []api.Addr
	for {
		next, found := api.Addr{}, false
		for _, a := range l {
			later := len(out) == 0 || ahead(out[len(out)-1], a)
			if take(a) && later && (!found || ahead(a, next)) {
				next, found = a, true
			}
		}
		if !found {
			return out
		}
		out = append(out, next)
	}
}

func ahead(a, b api.Addr) bool { return a.Dev < b.Dev || a.Dev == b.Dev && a.At < b.At }

func among(l []api.Addr, a api.Addr) bool {
	for _, x := range l {
		if x.Dev == a.Dev && x.At == a.At {
			return true
		}
	}
	return false
}

// call is one that tells a set of two lists and a device, and what it should tell.
type call struct {
	name string
	do   func(a, b []api.Addr, dev int) []api.Addr
	take func(a, b []api.Addr, dev int, x api.Addr) bool
}

func calls() []call {
	return []call{
		{"Sort",
			func(a, _ []api.Addr, _ int) []api.Addr { return addr.Sort(a) },
			func(a, _ []api.Addr, _ int, x api.Addr) bool { return among(a, x) }},
		{"Union",
			func(a, b []api.Addr, _ int) []api.Addr { return addr.Union(a, b) },
			func(a, b []api.Addr, _ int, x api.Addr) bool { return among(a, x) || among(b, x) }},
		{"Minus",
			func(a, b []api.Addr, _ int) []api.Addr { return addr.Minus(a, b) },
			func(a, b []api.Addr, _ int, x api.Addr) bool { return among(a, x) && !among(b, x) }},
		{"Both",
			func(a, b []api.Addr, _ int) []api.Addr { return addr.Both(a, b) },
			func(a, b []api.Addr, _ int, x api.Addr) bool { return among(a, x) && among(b, x) }},
		{"On",
			func(a, _ []api.Addr, dev int) []api.Addr { return addr.On(a, dev) },
			func(a, _ []api.Addr, dev int, x api.Addr) bool { return among(a, x) && x.Dev == dev }},
	}
}

// want is what the call should tell.
func (c call) want(a, b []api.Addr, dev int) []api.Addr {
	return chosen(slices.Concat(a, b), func(x api.Addr) bool { return c.take(a, b, dev, x) })
}

func TestP3_2_Examples(t *testing.T) {
	for i, x := range []struct{ got, want []api.Addr }{
		{addr.Sort([]api.Addr{at(1, 5), at(0, 7), at(1, 5)}), []api.Addr{at(0, 7), at(1, 5)}},
		{addr.Union([]api.Addr{at(0, 5)}, []api.Addr{at(1, 5), at(0, 5)}), []api.Addr{at(0, 5), at(1, 5)}},
		{addr.Minus([]api.Addr{at(0, 5), at(1, 5)}, []api.Addr{at(1, 5)}), []api.Addr{at(0, 5)}},
		{addr.Both([]api.Addr{at(0, 5), at(1, 5)}, []api.Addr{at(1, 5), at(2, 5)}), []api.Addr{at(1, 5)}},
		{addr.On([]api.Addr{at(0, 5), at(1, 6), at(1, 5)}, 1), []api.Addr{at(1, 5), at(1, 6)}},
	} {
		if !slices.Equal(x.got, x.want) {
			t.Errorf("%d: %v, want %v", i, x.got, x.want)
		}
	}
}

func TestP3_2_SortAtTheEdges(t *testing.T) {
	for _, x := range []struct{ l, want []api.Addr }{
		{nil, nil},
		{[]api.Addr{}, nil},
		{[]api.Addr{{}}, []api.Addr{{}}},
		{[]api.Addr{at(0, 5)}, []api.Addr{at(0, 5)}},
		{[]api.Addr{at(0, 5), at(0, 5), at(0, 5)}, []api.Addr{at(0, 5)}},
		{[]api.Addr{at(2, 5), at(1, 9), at(1, 6), at(0, 7), at(0, 5)}, []api.Addr{at(0, 5), at(0, 7), at(1, 6), at(1, 9), at(2, 5)}},
		{[]api.Addr{at(9, 4097), at(-1, 0), at(9, 4), at(-1, -1), at(9, 4097)}, []api.Addr{at(-1, -1), at(-1, 0), at(9, 4), at(9, 4097)}},
		{[]api.Addr{at(math.MaxInt, math.MinInt), at(math.MinInt, math.MaxInt), at(math.MaxInt, 0)}, []api.Addr{at(math.MinInt, math.MaxInt), at(math.MaxInt, math.MinInt), at(math.MaxInt, 0)}},
	} {
		if got := addr.Sort(x.l); !slices.Equal(got, x.want) {
			t.Errorf("%v: %v, want %v", x.l, got, x.want)
		}
	}
}

func TestP3_2_Has(t *testing.T) {
	falling := []api.Addr{at(2, 5), at(1, 9), at(1, 6), at(1, 6), at(0, 7), at(-1, 4097)}
	for _, x := range []struct {
		l    []api.Addr
		a    api.Addr
		want bool
	}{
		{nil, api.Addr{}, false},
		{[]api.Addr{}, api.Addr{}, false},
		{[]api.Addr{{}}, api.Addr{}, true},
		{falling, at(2, 5), true},
		{falling, at(1, 9), true},
		{falling, at(1, 6), true},
		{falling, at(-1, 4097), true},
		{falling, at(1, 5), false}, // its device is there, and its sector, but not together
		{falling, at(2, 6), false},
		{falling, at(6, 1), false},
		{falling, at(3, 3), false},
		{falling, api.Addr{}, false},
	} {
		was := slices.Clone(x.l)
		if got := addr.Has(x.l, x.a); got != x.want || !slices.Equal(x.l, was) {
			t.Errorf("%v has %v: %v, and the list is %v", was, x.a, got, x.l)
		}
	}
}

func TestP3_2_HasOfAny(t *testing.T) {
	d := dice(2)
	for range 5000 {
		l, a := d.list(), at(d.number(), d.number())
		if got := addr.Has(l, a); got != among(l, a) {
			t.Fatalf("%v has %v: %v", l, a, got)
		}
	}
}

func TestP3_2_SetsOfAnyLists(t *testing.T) {
	d := dice(3)
	for range 5000 {
		a, b, dev := d.list(), d.list(), d.number()
		for _, c := range calls() {
			if got, want := c.do(a, b, dev), c.want(a, b, dev); !slices.Equal(got, want) {
				t.Fatalf("%s of %v, %v, %d: %v, want %v", c.name, a, b, dev, got, want)
			}
		}
	}
}

func TestP3_2_SetsOfNone(t *testing.T) {
	l := []api.Addr{at(1, 5), at(0, 7), at(1, 5)}
	set := []api.Addr{at(0, 7), at(1, 5)}
	for _, none := range [][]api.Addr{nil, {}} {
		for i, x := range []struct{ got, want []api.Addr }{
			{addr.Union(none, none), nil},
			{addr.Union(l, none), set},
			{addr.Union(none, l), set},
			{addr.Minus(none, none), nil},
			{addr.Minus(l, none), set},
			{addr.Minus(none, l), nil},
			{addr.Minus(l, l), nil},
			{addr.Both(none, none), nil},
			{addr.Both(l, none), nil},
			{addr.Both(none, l), nil},
			{addr.Both(l, l), set},
			{addr.On(none, 0), nil},
			{addr.On(l, 2), nil},
			{addr.On(l, -1), nil},
			{addr.On(l, 7), nil}, // a sector's number, not a device's
		} {
			if !slices.Equal(x.got, x.want) {
				t.Errorf("%d: %v, want %v", i, x.got, x.want)
			}
		}
	}
}

func TestP3_2_SetsOfMany(t *testing.T) {
	var evens, threes []api.Addr
	for dev := api.MaxDevs - 1; dev >= 0; dev-- {
		for sector := api.MaxSectors - 1; sector >= 0; sector-- {
			if sector%2 == 0 {
				evens = append(evens, at(dev, sector))
			}
			if sector%3 == 0 {
				threes = append(threes, at(dev, sector))
			}
		}
	}
	all := slices.Concat(evens, threes)
	for _, c := range calls() {
		var want []api.Addr
		for dev := range api.MaxDevs {
			for sector := range api.MaxSectors {
				if a := at(dev, sector); c.take(alone(evens, a), alone(threes, a), 3, a) {
					want = append(want, a)
				}
			}
		}
		if got := c.do(evens, threes, 3); !slices.Equal(got, want) {
			t.Errorf("%s: %d addresses, want %d", c.name, len(got), len(want))
		}
	}
	if got := addr.Sort(all); len(got) != 8*(2048+1366-683) {
		t.Error(len(got))
	}
}

// alone is what a falling list has of a: so no call's long way looks through all of a long list.
func alone(falling []api.Addr, a api.Addr) []api.Addr {
	i, in := slices.BinarySearchFunc(falling, a, func(x, a api.Addr) int {
		switch {
		case ahead(a, x):
			return -1
		case ahead(x, a):
			return 1
		}
		return 0
	})
	if !in {
		return nil
	}
	return falling[i : i+1]
}

func TestP3_2_WhatIsHandedInStays(t *testing.T) {
	d := dice(4)
	for range 500 {
		a, b := slices.Concat(d.list(), d.list()), slices.Concat(d.list(), d.list())
		wasA, wasB := slices.Clone(a), slices.Clone(b)
		na, nb := len(a)/2, len(b)/2 // behind these: spare room
		for _, c := range calls() {
			got, want := c.do(a[:na], b[:nb], 1), c.want(wasA[:na], wasB[:nb], 1)
			if !slices.Equal(got, want) {
				t.Fatalf("%s: the spare room counts: %v, want %v", c.name, got, want)
			}
			addr.Has(a[:na], at(1, 5))
			addr.Apart(a[:na])
			if !slices.Equal(a, wasA) || !slices.Equal(b, wasB) {
				t.Fatalf("%s: changed what was handed in", c.name)
			}
		}
	}
}

func TestP3_2_WhatIsToldIsNewMemory(t *testing.T) {
	lists := [][]api.Addr{
		{at(1, 5), at(0, 7), at(1, 6)},
		{at(0, 5), at(1, 5), at(1, 6)}, // one that is a set already
		{at(1, 6)},
		{},
		make([]api.Addr, 0, 4),
	}
	other := at(7, 77)
	for _, c := range calls() {
		for _, a := range lists {
			for _, b := range lists {
				a, b := a[:len(a):cap(a)], b[:len(b):cap(b)]
				roomA, roomB := a[:cap(a)], b[:cap(b)]
				wasA, wasB := slices.Clone(roomA), slices.Clone(roomB)
				first, second := c.do(a, b, 1), c.do(a, b, 1)
				want := slices.Clone(second)
				spoil(first, other)
				if !slices.Equal(second, want) {
					t.Errorf("%s of %v, %v: two answers share memory", c.name, wasA, wasB)
				}
				if !slices.Equal(roomA, wasA) || !slices.Equal(roomB, wasB) {
					t.Fatalf("%s of %v, %v: the answer shares memory with an argument", c.name, wasA, wasB)
				}
			}
		}
	}
}

func TestP3_2_WhatIsHandedInIsNotKept(t *testing.T) {
	for _, c := range calls() {
		a, b := []api.Addr{at(0, 5), at(1, 5), at(1, 6)}, []api.Addr{at(1, 5), at(2, 9)}
		got := c.do(a, b, 1)
		want := slices.Clone(got)
		spoil(a, at(3, 3))
		spoil(b, at(4, 4))
		if !slices.Equal(got, want) {
			t.Errorf("%s: a changed argument changes the answer", c.name)
		}
		if got := c.do([]api.Addr{at(0, 5), at(1, 5), at(1, 6)}, []api.Addr{at(1, 5), at(2, 9)}, 1); !slices.Equal(got, want) {
			t.Errorf("%s: %v behind another call, want %v", c.name, got, want)
		}
	}
}

// spoil lays a at all places of a list, its spare room too.
func spoil(l []api.Addr, a api.Addr) {
	l = l[:cap(l)]
	for i := range l {
		l[i] = a
	}
}
