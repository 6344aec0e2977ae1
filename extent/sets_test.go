package extent_test

import (
	"slices"
	"testing"

	"caulker/api"
	"caulker/extent"
)

// told holds what the calls of two lists that may be tell against what they should, which is of the sectors from low to high.
func told(t *testing.T, l, m []api.Extent, low, high int) {
	t.Helper()
	inL, inM := func(s int) bool { return among(l, s) }, func(s int) bool { return among(m, s) }
	for _, c := range calls() {
		want := listOf(low, high, func(s int) bool { return c.take(inL(s), inM(s)) })
		if got, e := c.do(l, m); e != api.OK || !slices.Equal(got, want) {
			t.Fatalf("%s(%s, %s): %s, %v; want %s", c.name, text(l), text(m), text(got), e, text(want))
		}
		if c.name == "Cut" && extent.Within(l, m) != (len(want) == 0) {
			t.Fatalf("Within(%s, %s): %v", text(l), text(m), extent.Within(l, m))
		}
	}
}

func TestP6_2_Examples(t *testing.T) {
	got, e := extent.Add(of(3, 2), of(5, 1))
	holds(t, "Add(3+2, 5+1)", got, e, of(3, 3), api.OK)
	got, e = extent.Cut(of(3, 5), of(5, 1))
	holds(t, "Cut(3+5, 5+1)", got, e, of(3, 2, 6, 2), api.OK)
	got, e = extent.Both(of(3, 5), of(0, 4, 6, 9))
	holds(t, "Both(3+5, 0+4 6+9)", got, e, of(3, 1, 6, 2), api.OK)
	if !extent.Within(of(4, 1), of(3, 2)) || extent.Within(of(3, 2), of(4, 1)) {
		t.Error("Within")
	}
}

func TestP6_2_SetsAtTheEdges(t *testing.T) {
	for i, x := range []struct {
		l, m, add, cut, both []api.Extent
	}{
		{nil, nil, nil, nil, nil},
		{of(3, 2), nil, of(3, 2), of(3, 2), nil},
		{nil, of(3, 2), of(3, 2), nil, nil},
		{of(3, 2), of(3, 2), of(3, 2), nil, of(3, 2)},
		{of(3, 2), of(5, 2), of(3, 4), of(3, 2), nil},                                                          // touch
		{of(5, 2), of(3, 2), of(3, 4), of(5, 2), nil},                                                          // touch, the other way
		{of(3, 2), of(6, 2), of(3, 2, 6, 2), of(3, 2), nil},                                                    // one sector between
		{of(3, 2), of(4, 2), of(3, 3), of(3, 1), of(4, 1)},                                                     // meet
		{of(4, 2), of(3, 2), of(3, 3), of(5, 1), of(4, 1)},                                                     // meet, the other way
		{of(3, 5), of(3, 2), of(3, 5), of(5, 3), of(3, 2)},                                                     // begin together
		{of(3, 2), of(3, 5), of(3, 5), nil, of(3, 2)},                                                          // begin together, the other way
		{of(3, 5), of(6, 2), of(3, 5), of(3, 3), of(6, 2)},                                                     // end together
		{of(6, 2), of(3, 5), of(3, 5), nil, of(6, 2)},                                                          // end together, the other way
		{of(3, 5), of(5, 1), of(3, 5), of(3, 2, 6, 2), of(5, 1)},                                               // one within the other
		{of(5, 1), of(3, 5), of(3, 5), nil, of(5, 1)},                                                          // within, the other way
		{of(3, 2, 6, 2), of(5, 1), of(3, 5), of(3, 2, 6, 2), nil},                                              // one that joins two
		{of(0, 9), of(1, 1, 3, 1, 5, 3), of(0, 9), of(0, 1, 2, 1, 4, 1, 8, 1), of(1, 1, 3, 1, 5, 3)},           // several within one
		{of(0, 4096), of(0, 1, 4095, 1), of(0, 4096), of(1, 4094), of(0, 1, 4095, 1)},                          // the first and the last sector
		{of(0, 1), of(4095, 1), of(0, 1, 4095, 1), of(0, 1), nil},                                              // the two, apart
		{of(0, 2048), of(2048, 2048), of(0, 4096), of(0, 2048), nil},                                           // the two halves
		{of(0, 3, 5, 3, 10, 3), of(2, 4, 7, 4), of(0, 13), of(0, 2, 6, 1, 11, 2), of(2, 1, 5, 1, 7, 1, 10, 1)}, // one behind the other
	} {
		for _, y := range []struct {
			name string
			do   func(l, m []api.Extent) ([]api.Extent, api.Errno)
			want []api.Extent
		}{{"Add", extent.Add, x.add}, {"Cut", extent.Cut, x.cut}, {"Both", extent.Both, x.both}} {
			if got, e := y.do(x.l, x.m); e != api.OK || !slices.Equal(got, y.want) {
				t.Errorf("%d: %s(%s, %s): %s, %v; want %s", i, y.name, text(x.l), text(x.m), text(got), e, text(y.want))
			}
		}
		if got := extent.Within(x.l, x.m); got != (len(x.cut) == 0) {
			t.Errorf("%d: Within(%s, %s): %v", i, text(x.l), text(x.m), got)
		}
	}
}

func TestP6_2_SetsOfAllSmallLists(t *testing.T) {
	for _, low := range []int{0, 2044, 4089} {
		for a := range 128 {
			for b := range 128 {
				told(t, picked(low, a), picked(low, b), low, low+6)
			}
		}
	}
}

func TestP6_2_SetsOfAny(t *testing.T) {
	d := dice(4)
	for range 60 {
		l := d.list()
		for _, m := range [][]api.Extent{d.list(), d.near(l), l} {
			inL, inM := sectorsOf(l), sectorsOf(m)
			for _, c := range calls() {
				want := listOf(0, 4095, func(s int) bool {
					_, one := slices.BinarySearch(inL, s)
					_, other := slices.BinarySearch(inM, s)
					return c.take(one, other)
				})
				got, e := c.do(l, m)
				holds(t, c.name, got, e, want, api.OK)
			}
		}
	}
}

func TestP6_2_WithinOfAny(t *testing.T) {
	d := dice(5)
	for range 300 {
		m := d.near(d.list())
		for _, l := range [][]api.Extent{d.list(), m, d.near(m)} {
			inM := sectorsOf(m)
			want := !slices.ContainsFunc(sectorsOf(l), func(s int) bool {
				_, in := slices.BinarySearch(inM, s)
				return !in
			})
			if got := extent.Within(l, m); got != want {
				t.Fatalf("Within(%s, %s): %v", text(l), text(m), got)
			}
		}
		part := listOf(0, 4095, func(s int) bool { return among(m, s) && s%3 != 0 })
		if !extent.Within(part, m) {
			t.Fatalf("Within(%s, %s): false", text(part), text(m))
		}
	}
}

func TestP6_2_SetsOfTheRight(t *testing.T) {
	for _, l := range rightLists() {
		for _, m := range rightLists() {
			if len(l)+len(m) < 20 {
				told(t, l, m, 0, 4095)
			}
		}
	}
	evens := listOf(0, 4095, func(s int) bool { return s%2 == 0 })
	odds := listOf(0, 4095, func(s int) bool { return s%2 == 1 })
	for _, x := range []struct {
		name string
		want []api.Extent
	}{{"Add", of(0, 4096)}, {"Cut", evens}, {"Both", nil}} {
		c := calls()[slices.IndexFunc(calls(), func(c call) bool { return c.name == x.name })]
		got, e := c.do(evens, odds)
		holds(t, x.name+" of evens and odds", got, e, x.want, api.OK)
	}
	got, e := extent.Cut(of(0, 4096), evens)
	holds(t, "all but the evens", got, e, odds, api.OK)
	if extent.Within(evens, odds) || !extent.Within(odds, of(1, 4095)) || extent.Within(evens, of(1, 4095)) {
		t.Error("Within of evens and odds")
	}
}

func TestP6_2_AListWithItself(t *testing.T) {
	d := dice(6)
	lists := rightLists()
	for range 200 {
		lists = append(lists, d.list())
	}
	for _, l := range lists {
		was := slices.Clone(l)
		got, e := extent.Add(l, l)
		holds(t, "Add", got, e, was, api.OK)
		got, e = extent.Cut(l, l)
		holds(t, "Cut", got, e, nil, api.OK)
		got, e = extent.Both(l, l)
		holds(t, "Both", got, e, was, api.OK)
		if !extent.Within(l, l) || !slices.Equal(l, was) {
			t.Fatalf("%s within itself: %v", text(was), extent.Within(l, l))
		}
	}
}

func TestP6_2_TwoListsOfOneMemory(t *testing.T) {
	all := of(1, 2, 5, 1, 9, 3, 20, 4)
	for i := range all {
		for j := range all {
			told(t, all[:i], all[j:], 0, 30)
			told(t, all[i:], all[:j], 0, 30)
			told(t, all[i:], all[j:], 0, 30)
		}
	}
}

func TestP6_2_ListsThatMayNotBe(t *testing.T) {
	for _, wrong := range wrongLists() {
		for _, other := range append(rightLists(), of(-1, 2), of(3, 0), wrong) {
			for _, pair := range [][2][]api.Extent{{wrong, other}, {other, wrong}} {
				for _, c := range calls() {
					got, e := c.do(pair[0], pair[1])
					holds(t, c.name, got, e, nil, api.ErrArg)
				}
				if extent.Within(pair[0], pair[1]) {
					t.Fatalf("Within(%s, %s): true", text(pair[0]), text(pair[1]))
				}
			}
		}
	}
}

func TestP6_2_WhatIsHandedInStays(t *testing.T) {
	d := dice(7)
	lists := append(rightLists(), of(3, 0), of(4095, 2), of(3, 2, 5, 1))
	for range 30 {
		lists = append(lists, d.near(of(3, 2, 90, 7)))
	}
	for _, l := range lists {
		for _, m := range lists {
			roomL, roomM := slices.Concat(l, of(-7, 3, 5, 0)), slices.Concat(m, of(5, 0, 2, 2)) // behind the lists: spare room
			wasL, wasM := slices.Clone(roomL), slices.Clone(roomM)
			for _, c := range calls() {
				got, e := c.do(l, m)
				want := slices.Clone(got)
				wanted := e
				got, e = c.do(roomL[:len(l)], roomM[:len(m)])
				holds(t, c.name+" with spare room", got, e, want, wanted)
			}
			if extent.Within(roomL[:len(l)], roomM[:len(m)]) != extent.Within(l, m) {
				t.Fatalf("Within(%s, %s): the spare room counts", text(l), text(m))
			}
			if !slices.Equal(roomL, wasL) || !slices.Equal(roomM, wasM) {
				t.Fatalf("changed what was handed in: %s, %s; was %s, %s", text(roomL), text(roomM), text(wasL), text(wasM))
			}
		}
	}
}

func TestP6_2_WhatIsToldIsNewMemory(t *testing.T) {
	lists := [][]api.Extent{nil, make([]api.Extent, 0, 4), of(3, 2), of(3, 2, 6, 1), of(0, 4, 6, 9), of(0, 4096)}
	for _, c := range calls() {
		for _, l := range lists {
			for _, m := range lists {
				l, m := append(make([]api.Extent, 0, 8), l...), append(make([]api.Extent, 0, 8), m...)
				wasL, wasM := slices.Clone(l[:8]), slices.Clone(m[:8])
				first, _ := c.do(l, m)
				second, _ := c.do(l, m)
				want := slices.Clone(second)
				spoil(first)
				if !slices.Equal(second, want) {
					t.Errorf("%s(%s, %s): two answers share memory", c.name, text(wasL), text(wasM))
				}
				if !slices.Equal(l[:8], wasL) || !slices.Equal(m[:8], wasM) {
					t.Fatalf("%s(%s, %s): the answer shares memory with an argument", c.name, text(wasL), text(wasM))
				}
				spoil(l)
				spoil(m)
				if !slices.Equal(second, want) {
					t.Errorf("%s(%s, %s): a changed argument changes the answer", c.name, text(wasL), text(wasM))
				}
			}
		}
	}
}
