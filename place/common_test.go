package place_test

import (
	"math"
	"slices"
	"strconv"
	"testing"

	"caulker/api"
	"caulker/place"
)

// dice is a row of numbers that looks like chance and is the same in each run.
type dice uint64

func (d *dice) below(n int) int {
	*d = *d*6364136223846793005 + 1442695040888963407
	return int(uint64(*d) >> 33 % uint64(n))
}

// ask is what a call is given.
type ask struct {
	free   []int
	there  []bool
	copies int
}

func (a ask) clone() ask { return ask{slices.Clone(a.free), slices.Clone(a.there), a.copies} }

// text is an ask, with a star behind each device that is there.
func (a ask) text() string {
	s := strconv.Itoa(a.copies) + " of"
	for i := range max(len(a.free), len(a.there)) {
		s += " "
		if i < len(a.free) {
			s += strconv.Itoa(a.free[i])
		}
		if i < len(a.there) && a.there[i] {
			s += "*"
		}
	}
	return s
}

// all is a list of so many that are there.
func all(n int) []bool { return slices.Repeat([]bool{true}, n) }

// picked is who is there: the bits that are set, of n.
func picked(n, bits int) []bool {
	there := make([]bool, n)
	for i := range there {
		there[i] = bits>>i&1 == 1
	}
	return there
}

// ask is one that may be: rooms all over, or near each other, or full, most devices there or few.
func (d *dice) ask() ask {
	n := 2 + d.below(7)
	a := ask{make([]int, n), make([]bool, n), 1 + d.below(3)}
	most, odds := []int{1, 2, 3, 6, 40, 4097}[d.below(6)], 1+d.below(6)
	low := d.below(4098 - most)
	if d.below(2) == 0 {
		low = 0
	}
	for i := range n {
		a.free[i], a.there[i] = low+d.below(most), d.below(odds) > 0
	}
	return a
}

// small calls do with every ask of two to four devices whose room is one of these.
func small(rooms []int, do func(a ask)) {
	for n := 2; n <= 4; n++ {
		for bits := range 1 << n {
			lists(n, rooms, func(free []int) {
				for copies := 1; copies <= 3; copies++ {
					do(ask{slices.Clone(free), picked(n, bits), copies})
				}
			})
		}
	}
}

// lists calls do with every list of n of these numbers.
func lists(n int, of []int, do func(l []int)) {
	if n == 0 {
		do(nil)
		return
	}
	lists(n-1, of, func(l []int) {
		for _, x := range of {
			do(append(slices.Clone(l), x))
		}
	})
}

// edges are asks that may be, at the chapter's edges.
func edges() []ask {
	var out []ask
	for copies := 1; copies <= 3; copies++ {
		for _, free := range [][]int{
			{0, 0}, {0, 1}, {1, 0}, {1, 1}, {4096, 4096}, {4096, 0}, {0, 4096}, {4095, 4096}, {1, 4096}, {3, 5},
			{3, 5, 5}, {5, 3, 5}, {5, 5, 3}, {0, 5, 5}, {5, 0, 5}, {1, 1, 4096}, {4096, 1, 4096}, {2, 2, 2}, {0, 0, 0}, {1, 0, 1}, {3, 2, 1}, {1, 2, 3},
			{0, 0, 0, 0, 0, 0, 0, 0}, {4, 4, 4, 4, 4, 4, 4, 4}, {1, 2, 3, 4, 5, 6, 7, 8}, {8, 7, 6, 5, 4, 3, 2, 1}, {0, 0, 0, 0, 0, 0, 0, 9}, {0, 9, 0, 9, 0, 9, 0, 9}, {0, 0, 0, 0, 0, 0, 2, 1},
			slices.Repeat([]int{4096}, 8), {4096, 4096, 4096, 4096, 4096, 4096, 4096, 0}, {6, 1, 5, 1, 4, 1, 3, 1},
		} {
			n := len(free)
			out = append(out, ask{free, all(n), copies}, ask{free, make([]bool, n), copies})
			for i := range n {
				one, but := make([]bool, n), all(n)
				one[i], but[i] = true, false
				out = append(out, ask{free, one, copies}, ask{free, but, copies})
			}
		}
	}
	return out
}

// wrong are asks that may not be, each for one reason, some for several.
func wrong() []ask {
	out := []ask{
		{nil, nil, 1}, {[]int{}, []bool{}, 1}, {nil, nil, 0}, {[]int{3}, all(1), 1}, {slices.Repeat([]int{3}, 9), all(9), 1}, {make([]int, 9), make([]bool, 9), 2}, {slices.Repeat([]int{3}, 1000), all(1000), 1},
		{nil, all(2), 1}, {[]int{3, 5}, nil, 1}, {[]int{3, 5}, []bool{}, 1}, {[]int{3, 5}, all(1), 1}, {[]int{3, 5}, all(3), 1}, {[]int{3, 5, 5}, all(2), 1}, {[]int{3}, all(2), 1}, {slices.Repeat([]int{3}, 8), all(9), 1}, {slices.Repeat([]int{3}, 8), all(7), 1}, {slices.Repeat([]int{3}, 9), all(8), 1}, {[]int{3, 5}, all(8), 1},
		{[]int{}, all(8), 3}, {slices.Repeat([]int{3}, 7), append(all(7), false), 1},
	}
	for _, room := range []int{-1, 4097, -4096, 4098, 8192, 1 << 16, 1 << 31, 1 << 32, 1<<32 + 3, -1 << 32, 1 << 62, math.MinInt, math.MaxInt} {
		for _, n := range []int{2, 3, 8} {
			for i := range n {
				free, but := slices.Repeat([]int{5}, n), all(n)
				free[i], but[i] = room, false
				out = append(out, ask{free, all(n), 1}, ask{free, but, 2}, ask{free, make([]bool, n), 3})
			}
		}
		out = append(out, ask{[]int{room, room}, all(2), 1}, ask{[]int{room, -room}, all(2), 2})
	}
	for _, copies := range []int{0, 4, -1, -3, 5, 8, 9, 257, 1<<32 + 1, 1 << 62, math.MinInt, math.MinInt + 1, math.MaxInt} {
		out = append(out, ask{[]int{3, 5}, all(2), copies}, ask{slices.Repeat([]int{7}, 8), all(8), copies}, ask{[]int{3, 5, 5}, make([]bool, 3), copies}, ask{[]int{0, 0}, all(2), copies})
	}
	return out
}

// able is whether a device can take one.
func able(a ask, dev int) bool { return a.there[dev] && a.free[dev] >= 1 }

// chosen is what should be chosen of an ask that may be, found by looking for one device behind the other; false, if there is no room.
func chosen(a ask) ([]int, bool) {
	up := 0
	for _, is := range a.there {
		if is {
			up++
		}
	}
	var devs []int
	for len(devs) < a.copies && len(devs) < up {
		best := -1
		for dev := len(a.free) - 1; dev >= 0; dev-- {
			if able(a, dev) && !slices.Contains(devs, dev) && (best < 0 || a.free[dev] >= a.free[best]) {
				best = dev
			}
		}
		if best < 0 {
			return nil, false
		}
		devs = append(devs, best)
	}
	return devs, up > 0
}

// many is how often one can be chosen, by chosen and by counting down.
func many(a ask) int {
	a = a.clone()
	for n := 0; ; n++ {
		devs, ok := chosen(a)
		if !ok {
			return n
		}
		for _, dev := range devs {
			a.free[dev]--
		}
	}
}

// text is devices, as the chapter's examples have them.
func text(devs []int) string {
	if len(devs) == 0 {
		return "none"
	}
	s := ""
	for _, dev := range devs {
		s += strconv.Itoa(dev) + " "
	}
	return s[:len(s)-1]
}

// chooses demands that Choose answers this.
func chooses(t *testing.T, a ask, want []int, wanted api.Errno) {
	t.Helper()
	if devs, e := place.Choose(a.free, a.there, a.copies); e != wanted || !slices.Equal(devs, want) || (e != api.OK && devs != nil) {
		t.Fatalf("Choose(%s): %s, %v; want %s, %v", a.text(), text(devs), e, text(want), wanted)
	}
}

// counts demands that Many answers this.
func counts(t *testing.T, a ask, want int, wanted api.Errno) {
	t.Helper()
	if n, e := place.Many(a.free, a.there, a.copies); e != wanted || n != want {
		t.Fatalf("Many(%s): %d, %v; want %d, %v", a.text(), n, e, want, wanted)
	}
}
