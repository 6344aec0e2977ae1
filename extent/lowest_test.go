package extent_test

import (
	"math"
	"slices"
	"strconv"
	"testing"

	"caulker/api"
	"caulker/extent"
)

// lowest is the list of the n lowest of a list's sectors.
func lowest(l []api.Extent, n int) []api.Extent {
	s := sectorsOf(l)[:n]
	return listOf(0, 4095, func(x int) bool {
		_, in := slices.BinarySearch(s, x)
		return in
	})
}

func TestP6_3_Examples(t *testing.T) {
	l, e := extent.Lowest(of(3, 2, 6, 4), 3)
	holds(t, "3", l, e, of(3, 2, 6, 1), api.OK)
	l, e = extent.Lowest(of(3, 2), 3)
	holds(t, "one more", l, e, nil, api.ErrFull)
	l, e = extent.Lowest(of(3, 2), 0)
	holds(t, "0", l, e, nil, api.OK)
	l, e = extent.Lowest(of(3, 2), -1)
	holds(t, "-1", l, e, nil, api.ErrArg)
}

func TestP6_3_AtTheEdges(t *testing.T) {
	for i, x := range []struct {
		l      []api.Extent
		n      int
		want   []api.Extent
		wanted api.Errno
	}{
		{nil, 0, nil, api.OK}, {nil, 1, nil, api.ErrFull}, {nil, -1, nil, api.ErrArg}, {[]api.Extent{}, 0, nil, api.OK},
		{of(0, 1), 1, of(0, 1), api.OK}, {of(0, 1), 2, nil, api.ErrFull}, {of(4095, 1), 1, of(4095, 1), api.OK}, {of(4095, 1), 0, nil, api.OK},
		{of(3, 4), 1, of(3, 1), api.OK}, {of(3, 4), 3, of(3, 3), api.OK}, {of(3, 4), 4, of(3, 4), api.OK}, {of(3, 4), 5, nil, api.ErrFull},
		{of(3, 2, 6, 4), 2, of(3, 2), api.OK}, {of(3, 2, 6, 4), 5, of(3, 2, 6, 3), api.OK}, {of(3, 2, 6, 4), 6, of(3, 2, 6, 4), api.OK}, {of(3, 2, 6, 4), 7, nil, api.ErrFull},
		{of(3, 1, 5, 1, 7, 1), 2, of(3, 1, 5, 1), api.OK},
		{of(0, 4096), 4095, of(0, 4095), api.OK}, {of(0, 4096), 4096, of(0, 4096), api.OK}, {of(0, 4096), 4097, nil, api.ErrFull},
		{of(3, 2), math.MaxInt, nil, api.ErrFull}, {of(3, 2), math.MinInt, nil, api.ErrArg}, {of(3, 2), 1 << 32, nil, api.ErrFull}, {of(3, 2), 1<<32 + 1, nil, api.ErrFull}, {of(3, 2), -1 << 32, nil, api.ErrArg}, {of(3, 2), -1<<32 + 1, nil, api.ErrArg},
	} {
		l, e := extent.Lowest(x.l, x.n)
		holds(t, strconv.Itoa(i), l, e, x.want, x.wanted)
	}
}

// every holds Lowest of a list that may be against what it should tell, for each n from below 0 on to beyond its sectors.
func every(t *testing.T, l []api.Extent) {
	t.Helper()
	count := len(sectorsOf(l))
	for n := -2; n <= count+2; n++ {
		got, e := extent.Lowest(l, n)
		switch {
		case n < 0:
			holds(t, "below 0", got, e, nil, api.ErrArg)
		case n > count:
			holds(t, "too many", got, e, nil, api.ErrFull)
		default:
			holds(t, strconv.Itoa(n), got, e, lowest(l, n), api.OK)
		}
	}
}

func TestP6_3_OfAllSmallLists(t *testing.T) {
	for _, low := range []int{0, 2044, 4089} {
		for bits := range 128 {
			every(t, picked(low, bits))
		}
	}
	every(t, of(0, 1, 3, 3, 8, 2, 4000, 1, 4094, 2))
}

func TestP6_3_OfAny(t *testing.T) {
	d := dice(8)
	for range 300 {
		l := d.list()
		count := len(sectorsOf(l))
		for _, n := range []int{0, count / 2, d.below(count + 1), count} {
			got, e := extent.Lowest(l, n)
			holds(t, strconv.Itoa(n), got, e, lowest(l, n), api.OK)
		}
		got, e := extent.Lowest(l, count+1)
		holds(t, "one more", got, e, nil, api.ErrFull)
	}
}

func TestP6_3_ListsThatMayNotBe(t *testing.T) {
	for _, l := range wrongLists() {
		for _, n := range numbers() { // ErrArg is ahead of ErrFull
			got, e := extent.Lowest(l, n)
			holds(t, strconv.Itoa(n), got, e, nil, api.ErrArg)
		}
	}
}

func TestP6_3_AnyNumber(t *testing.T) {
	for _, l := range rightLists() {
		count := len(sectorsOf(l))
		for _, n := range numbers() {
			got, e := extent.Lowest(l, n)
			switch {
			case n < 0:
				holds(t, strconv.Itoa(n), got, e, nil, api.ErrArg)
			case n > count:
				holds(t, strconv.Itoa(n), got, e, nil, api.ErrFull)
			default:
				holds(t, strconv.Itoa(n), got, e, lowest(l, n), api.OK)
			}
		}
	}
}

func TestP6_3_WhatIsHandedInStays(t *testing.T) {
	for _, l := range append(rightLists(), of(3, 0), of(3, 2, 5, 1)) {
		room := slices.Concat(l, of(4090, 3, 5, 0)) // behind the list: spare room
		was := slices.Clone(room)
		for n := -1; n < 9; n++ {
			want, wanted := extent.Lowest(l, n)
			want = slices.Clone(want)
			got, e := extent.Lowest(room[:len(l)], n)
			holds(t, "with spare room", got, e, want, wanted)
			if !slices.Equal(room, was) {
				t.Fatalf("changed what was handed in: %s, was %s", text(room), text(was))
			}
		}
	}
}

func TestP6_3_WhatIsToldIsNewMemory(t *testing.T) {
	for _, list := range [][]api.Extent{of(3, 2), of(3, 2, 6, 4), of(1, 1, 3, 1, 5, 9)} {
		for n := range 4 {
			if n > len(sectorsOf(list)) {
				continue
			}
			l := append(make([]api.Extent, 0, 8), list...)
			was := slices.Clone(l[:8])
			first, _ := extent.Lowest(l, n)
			second, _ := extent.Lowest(l, n)
			spoil(first)
			if !slices.Equal(second, lowest(list, n)) || !slices.Equal(l[:8], was) {
				t.Errorf("%d of %s: the answer shares memory: %s, %s", n, text(list), text(second), text(l[:8]))
			}
			spoil(l)
			if !slices.Equal(second, lowest(list, n)) {
				t.Errorf("%d of %s: a changed argument changes the answer: %s", n, text(list), text(second))
			}
		}
	}
}
