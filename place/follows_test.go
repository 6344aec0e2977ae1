package place_test

import (
	"slices"
	"testing"

	"caulker/api"
	"caulker/place"
)

// fair holds P7.4 of an ask that may be.
func fair(t *testing.T, a ask) {
	t.Helper()
	devs, _ := place.Choose(a.free, a.there, a.copies)
	for i, dev := range devs {
		if dev < 0 || dev >= len(a.free) || !a.there[dev] {
			t.Fatalf("%s: %s: %d is not there", a.text(), text(devs), dev)
		}
		if slices.Contains(devs[:i], dev) {
			t.Fatalf("%s: %s: %d twice", a.text(), text(devs), dev)
		}
		for other := range a.free {
			if able(a, other) && !slices.Contains(devs, other) && a.free[dev] < a.free[other] {
				t.Fatalf("%s: %s: %d has less room than %d", a.text(), text(devs), dev, other)
			}
		}
	}
}

func TestP7_4_NoneWithMoreRoomIsLeftOut(t *testing.T) {
	small([]int{0, 1, 3, 4096}, func(a ask) { fair(t, a) })
	for _, a := range edges() {
		fair(t, a)
	}
	d := dice(5)
	for range 20000 {
		fair(t, d.ask())
	}
}

// grows holds P7.5 of an ask that may be: each device in turn has some more room.
func grows(t *testing.T, a ask, more int) {
	t.Helper()
	before, _ := place.Many(a.free, a.there, a.copies)
	_, first := place.Choose(a.free, a.there, a.copies)
	for dev := range a.free {
		b := a.clone()
		b.free[dev] = min(4096, b.free[dev]+more)
		after, _ := place.Many(b.free, b.there, b.copies)
		_, e := place.Choose(b.free, b.there, b.copies)
		if after < before || first == api.OK && e != api.OK {
			t.Fatalf("%s: %d; %s: %d, %v", a.text(), before, b.text(), after, e)
		}
	}
}

func TestP7_5_MoreRoomIsNoLoss(t *testing.T) {
	small([]int{0, 1, 2, 5}, func(a ask) { grows(t, a, 1) })
	d := dice(6)
	for range 300 {
		grows(t, d.ask(), 1+d.below(9))
	}
}

func TestP7_5_HowOftenIsAsManyAsTheRoomTakes(t *testing.T) {
	d := dice(7)
	for range 1000 {
		a := d.ask()
		up := 0
		for _, is := range a.there {
			if is {
				up++
			}
		}
		n, _ := place.Many(a.free, a.there, a.copies)
		if up == 0 || !fits(a, n, min(a.copies, up)) || fits(a, n+1, min(a.copies, up)) {
			if up > 0 || n > 0 {
				t.Fatalf("%s: %d", a.text(), n)
			}
		}
	}
}

// fits is whether so many blocks of so many copies have room: a device has at most one of each.
func fits(a ask, blocks, copies int) bool {
	sum := 0
	for dev, is := range a.there {
		if is {
			sum += min(a.free[dev], blocks)
		}
	}
	return sum >= blocks*copies
}

// ahead are a list's elements with spare room behind them in which x stands.
func ahead[E any](l []E, x E) []E {
	long := slices.Clone(l)
	for range 4 {
		long = append(long, x)
	}
	return long[:len(l)]
}

func TestP7_2_WhatIsHandedInStays(t *testing.T) {
	asks := append(edges(), wrong()...)
	d := dice(8)
	for range 500 {
		asks = append(asks, d.ask())
	}
	for _, a := range asks {
		free, there := ahead(a.free, 4096), ahead(a.there, true)
		place.Check(free, there, a.copies)
		devs, e := place.Choose(free, there, a.copies)
		n, _ := place.Many(free, there, a.copies)
		if !slices.Equal(free[:len(free)+4], append(slices.Clone(a.free), 4096, 4096, 4096, 4096)) || !slices.Equal(there[:len(there)+4], append(slices.Clone(a.there), all(4)...)) {
			t.Fatalf("%s: what was handed in is another", a.text())
		}
		chooses(t, a, devs, e) // the spare room makes no difference
		if m, _ := place.Many(a.free, a.there, a.copies); m != n {
			t.Fatalf("%s: %d, and %d with spare room", a.text(), m, n)
		}
	}
}

func TestP7_2_WhatIsToldIsNewMemory(t *testing.T) {
	d := dice(9)
	for range 500 {
		a := d.ask()
		was := a.clone()
		first, e := place.Choose(a.free, a.there, a.copies)
		kept := slices.Clone(first)
		second, _ := place.Choose(a.free, a.there, a.copies)
		spoil(first)
		if !slices.Equal(second, kept) || !slices.Equal(a.free, was.free) || !slices.Equal(a.there, was.there) {
			t.Fatalf("%s: memory is shared", was.text())
		}
		chooses(t, a, kept, e)
		place.Many(a.free, a.there, a.copies)
		for i := range a.free {
			a.free[i], a.there[i] = 0, false
		}
		if !slices.Equal(second, kept) {
			t.Fatalf("%s: what was told is looked at in what was handed in", was.text())
		}
	}
}

// spoil lays a number at all places of a list, its spare room too.
func spoil(l []int) {
	l = l[:cap(l)]
	for i := range l {
		l[i] = 77
	}
}

func TestP7_3_OneBehindTheOtherIsChosenSoOften(t *testing.T) {
	d := dice(10)
	for range 200 {
		a := d.ask()
		n, _ := place.Many(a.free, a.there, a.copies)
		for i := range n {
			devs, e := place.Choose(a.free, a.there, a.copies)
			if e != api.OK {
				t.Fatalf("%s: %v, with %d to go", a.text(), e, n-i)
			}
			for _, dev := range devs {
				a.free[dev]--
			}
		}
		chooses(t, a, nil, api.ErrNoSpace)
		counts(t, a, 0, api.OK)
	}
}
