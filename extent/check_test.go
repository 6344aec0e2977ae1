package extent_test

import (
	"math"
	"slices"
	"strconv"
	"testing"

	"caulker/api"
	"caulker/extent"
)

// checked holds what Check, Count and List tell of a list against what they should.
func checked(t *testing.T, l []api.Extent, right bool) {
	t.Helper()
	wanted, count := api.ErrArg, 0
	if right {
		wanted = api.OK
		for _, run := range l {
			count += run.Size
		}
	}
	if e := extent.Check(l); e != wanted {
		t.Fatalf("Check(%s): %v, want %v", text(l), e, wanted)
	}
	if n := extent.Count(l); n != count {
		t.Fatalf("Count(%s): %d, want %d", text(l), n, count)
	}
	s, e := extent.List(l)
	if e != wanted || len(s) != count {
		t.Fatalf("List(%s): %d sectors, %v; want %d, %v", text(l), len(s), e, count, wanted)
	}
}

func TestP6_1_Examples(t *testing.T) {
	for i, x := range []struct {
		l    []api.Extent
		want api.Errno
	}{
		{of(3, 2, 6, 1), api.OK}, {of(3, 2, 5, 1), api.ErrArg}, {of(4, 1, 3, 1), api.ErrArg},
		{of(4095, 1), api.OK}, {of(4095, 2), api.ErrArg}, {of(5, 0), api.ErrArg},
	} {
		if e := extent.Check(x.l); e != x.want {
			t.Errorf("%d: %v, want %v", i, e, x.want)
		}
	}
	l, e := extent.Of([]int{6, 4, 3, 4})
	holds(t, "Of(6 4 3 4)", l, e, of(3, 2, 6, 1), api.OK)
	if s, e := extent.List(l); e != api.OK || !slices.Equal(s, []int{3, 4, 6}) || extent.Count(l) != 3 {
		t.Error(s, e, extent.Count(l))
	}
	l, e = extent.Of([]int{4096})
	holds(t, "Of(4096)", l, e, nil, api.ErrArg)
}

func TestP6_1_ListsThatMayBe(t *testing.T) {
	for _, l := range rightLists() {
		checked(t, l, true)
	}
}

func TestP6_1_ListsThatMayNotBe(t *testing.T) {
	for _, l := range wrongLists() {
		checked(t, l, false)
	}
}

func TestP6_1_OneRunOfAnyNumbers(t *testing.T) {
	right := 0
	for _, at := range numbers() {
		for _, size := range numbers() {
			l := of(at, size)
			checked(t, l, may(l))
			if may(l) {
				right++
			}
		}
	}
	if right != 7+6+5+4+4+2+1 { // how many sizes 0, 1, 2, 3, 2048, 4094 and 4095 have room for
		t.Error("the numbers are not those that were meant:", right)
	}
}

func TestP6_1_EachRunOfOneSector(t *testing.T) {
	for at := -10; at < 4110; at++ {
		checked(t, of(at, 1), at >= 0 && at <= 4095)
		checked(t, of(at, 4096-at), at >= 0 && at <= 4095) // to the end
		checked(t, of(at, 4097-at), false)
		checked(t, of(at, 0), false)
	}
}

func TestP6_1_TwoRuns(t *testing.T) {
	numbers := []int{math.MinInt, -1, 0, 1, 2, 3, 4, 4093, 4094, 4095, 4096, 4097, math.MaxInt - 2, math.MaxInt}
	for _, a := range numbers {
		for _, b := range numbers {
			for _, c := range numbers {
				for _, d := range numbers {
					l := of(a, b, c, d)
					checked(t, l, may(l))
				}
			}
		}
	}
}

func TestP6_1_ThreeRuns(t *testing.T) {
	right := 0
	for x := range 7 * 7 * 7 * 4 * 4 * 4 {
		l := of(x%7, x/343%4, x/7%7, x/1372%4, x/49%7, x/5488%4)
		checked(t, l, may(l))
		if may(l) {
			right++
		}
	}
	if right != 63 { // the first and the last begin 4, 5 or 6 sectors apart in 3, 8 and 10 ways, each with 3 sizes of the last
		t.Error("the lists are not those that were meant:", right)
	}
}

func TestP6_1_CountAndListOfAny(t *testing.T) {
	d := dice(1)
	for range 600 {
		l := d.list()
		s, e := extent.List(l)
		if want := sectorsOf(l); e != api.OK || !slices.Equal(s, want) || extent.Count(l) != len(want) {
			t.Fatalf("%s: %d sectors, %v, %d", text(l), len(s), e, extent.Count(l))
		}
	}
	for _, l := range rightLists() {
		if s, e := extent.List(l); e != api.OK || !slices.Equal(s, sectorsOf(l)) {
			t.Fatalf("%s: %d sectors, %v", text(l), len(s), e)
		}
	}
}

func TestP6_1_OfAtTheEdges(t *testing.T) {
	for i, x := range []struct {
		sectors []int
		want    []api.Extent
		wanted  api.Errno
	}{
		{nil, nil, api.OK}, {[]int{}, nil, api.OK},
		{[]int{0}, of(0, 1), api.OK}, {[]int{4095}, of(4095, 1), api.OK}, {[]int{7}, of(7, 1), api.OK},
		{[]int{7, 7, 7}, of(7, 1), api.OK}, {[]int{0, 4095, 0}, of(0, 1, 4095, 1), api.OK},
		{[]int{4095, 4094}, of(4094, 2), api.OK}, {[]int{1, 0}, of(0, 2), api.OK},
		{[]int{3, 5, 4}, of(3, 3), api.OK}, {[]int{5, 3, 5, 3}, of(3, 1, 5, 1), api.OK},
		{[]int{-1}, nil, api.ErrArg}, {[]int{4096}, nil, api.ErrArg}, {[]int{4097}, nil, api.ErrArg},
		{[]int{5, -1}, nil, api.ErrArg}, {[]int{-1, 5}, nil, api.ErrArg}, {[]int{5, 4096, 6}, nil, api.ErrArg}, {[]int{5, 6, 4096}, nil, api.ErrArg},
		{[]int{-1, 4096}, nil, api.ErrArg}, {[]int{-4096}, nil, api.ErrArg}, {[]int{1<<32 + 5}, nil, api.ErrArg}, {[]int{-1<<32 + 5}, nil, api.ErrArg},
		{[]int{1 << 16}, nil, api.ErrArg}, {[]int{math.MaxInt}, nil, api.ErrArg}, {[]int{math.MinInt}, nil, api.ErrArg}, {[]int{8, math.MinInt, 9}, nil, api.ErrArg},
	} {
		l, e := extent.Of(x.sectors)
		holds(t, strconv.Itoa(i), l, e, x.want, x.wanted)
	}
}

func TestP6_1_OfEachNumber(t *testing.T) {
	for s := -100; s < 4200; s++ {
		alone, e := extent.Of([]int{s})
		want, wanted := of(s, 1), api.OK
		if s < 0 || s > 4095 {
			want, wanted = nil, api.ErrArg
		}
		holds(t, strconv.Itoa(s), alone, e, want, wanted)
	}
}

func TestP6_1_OfWhateverOrder(t *testing.T) {
	d := dice(2)
	for _, low := range []int{0, 2044, 4089} {
		for bits := range 128 {
			want := picked(low, bits)
			sectors := sectorsOf(want)
			for range 6 {
				l, e := extent.Of(sectors)
				holds(t, "some", l, e, want, api.OK)
				for i := range sectors { // in another order, and one of them once more
					j := d.below(i + 1)
					sectors[i], sectors[j] = sectors[j], sectors[i]
				}
				if len(sectors) > 0 {
					sectors = append(sectors, sectors[d.below(len(sectors))])
				}
			}
		}
	}
}

func TestP6_1_OfMany(t *testing.T) {
	var all, evens []int
	for s := 4095; s >= 0; s-- {
		all = append(all, s)
		if s%2 == 0 {
			evens = append(evens, s)
		}
	}
	l, e := extent.Of(all)
	holds(t, "all", l, e, of(0, 4096), api.OK)
	l, e = extent.Of(slices.Concat(all, evens, all))
	holds(t, "all, often", l, e, of(0, 4096), api.OK)
	l, e = extent.Of(evens)
	holds(t, "evens", l, e, listOf(0, 4095, func(s int) bool { return s%2 == 0 }), api.OK)
	l, e = extent.Of(append(slices.Repeat([]int{9, 4000}, 1<<19), 8))
	holds(t, "two, very often, and a third", l, e, of(8, 2, 4000, 1), api.OK)
	for _, wrong := range []int{-1, 4096} {
		for _, i := range []int{0, 1, 2000, 4095, 4096} {
			l, e = extent.Of(slices.Insert(slices.Clone(all), i, wrong))
			holds(t, "all, and "+strconv.Itoa(wrong), l, e, nil, api.ErrArg)
		}
	}
}

func TestP6_1_WhatIsHandedInStays(t *testing.T) {
	d := dice(3)
	sectors := make([]int, 60)
	for range 200 {
		for i := range sectors {
			sectors[i] = d.below(4096)
		}
		was := slices.Clone(sectors)
		for _, n := range []int{0, 1, 30} { // behind these: spare room
			l, e := extent.Of(sectors[:n])
			if want := listOf(0, 4095, func(s int) bool { return slices.Contains(was[:n], s) }); e != api.OK || !slices.Equal(l, want) {
				t.Fatalf("of %v: %s, %v", was[:n], text(l), e)
			}
			if !slices.Equal(sectors, was) {
				t.Fatalf("Of changed what was handed in: %v, was %v", sectors, was)
			}
		}
	}
	for _, l := range slices.Concat(rightLists(), wrongLists()) {
		room := slices.Concat(l, of(-7, 3, 5, 0))
		was := slices.Clone(room)
		checked(t, room[:len(l)], may(l))
		if !slices.Equal(room, was) {
			t.Fatalf("changed what was handed in: %s, was %s", text(room), text(was))
		}
	}
}

func TestP6_1_WhatIsToldIsNewMemory(t *testing.T) {
	for _, sectors := range [][]int{{3, 4, 6}, {6, 4, 3, 4}, {0}, {5, 6, 7, 8, 9}} {
		in := slices.Clone(sectors)
		first, _ := extent.Of(in)
		second, _ := extent.Of(in)
		want := slices.Clone(second)
		spoil(first)
		if !slices.Equal(second, want) || !slices.Equal(in, sectors) {
			t.Errorf("%v: the list shares memory: %s, %v", sectors, text(second), in)
		}
		one, _ := extent.List(want)
		other, _ := extent.List(want)
		wantSectors := slices.Clone(other)
		for i := range one[:cap(one)] {
			one[:cap(one)][i] = 99
		}
		clear(in)
		if !slices.Equal(other, wantSectors) || !slices.Equal(second, want) {
			t.Errorf("%v: the sectors share memory: %v, %s", sectors, other, text(second))
		}
		spoil(want)
		if !slices.Equal(other, wantSectors) {
			t.Errorf("%v: a changed argument changes the sectors: %v", sectors, other)
		}
	}
}
