package extent_test

import (
	"testing"

	"caulker/api"
	"caulker/extent"
)

// lists are some that may be: all small ones, those at the edges, and any.
func lists(d dice) [][]api.Extent {
	l := rightLists()
	for bits := range 128 {
		l = append(l, picked(0, bits), picked(4089, bits))
	}
	for range 200 {
		l = append(l, d.list())
	}
	return l
}

func TestP6_4_TheListOfAListsSectorsIsThatList(t *testing.T) {
	for _, l := range lists(9) {
		s, e := extent.List(l)
		if e != api.OK || len(s) != extent.Count(l) {
			t.Fatalf("%s: %d sectors, %v", text(l), len(s), e)
		}
		back, e := extent.Of(s)
		holds(t, "back", back, e, l, api.OK)
	}
}

// parted holds P6.4 of two lists.
func parted(t *testing.T, l, m []api.Extent) {
	t.Helper()
	add, e1 := extent.Add(l, m)
	cut, e2 := extent.Cut(l, m)
	both, e3 := extent.Both(l, m)
	if e1 != api.OK || e2 != api.OK || e3 != api.OK {
		t.Fatalf("%s, %s: %v, %v, %v", text(l), text(m), e1, e2, e3)
	}
	for _, told := range [][]api.Extent{add, cut, both} {
		if extent.Check(told) != api.OK {
			t.Fatalf("%s, %s: %s may not be", text(l), text(m), text(told))
		}
	}
	again, e := extent.Add(cut, both)
	holds(t, "what Cut leaves and what Both has", again, e, l, api.OK)
	common, e := extent.Both(cut, both)
	holds(t, "in common", common, e, nil, api.OK)
	if extent.Count(add) != extent.Count(l)+extent.Count(m)-extent.Count(both) {
		t.Fatalf("Add(%s, %s): %d sectors", text(l), text(m), extent.Count(add))
	}
	if !extent.Within(l, add) || !extent.Within(m, add) || !extent.Within(both, m) || !extent.Within(cut, l) {
		t.Fatalf("%s, %s: %s; %s; %s are not within each other", text(l), text(m), text(add), text(cut), text(both))
	}
}

func TestP6_4_TwoListsAreTheirParts(t *testing.T) {
	d := dice(10)
	for _, l := range lists(11) {
		parted(t, l, l)
		parted(t, l, nil)
		parted(t, nil, l)
		parted(t, l, of(0, 4096))
		parted(t, l, d.near(l))
		parted(t, d.near(l), l)
		parted(t, l, d.list())
	}
	for a := range 128 {
		for b := range 128 {
			parted(t, picked(4089, a), picked(4089, b))
		}
	}
}

func TestP6_4_TheLowestAreWithinAndTheRestIsAbove(t *testing.T) {
	d := dice(12)
	for _, l := range lists(13) {
		n := d.below(extent.Count(l) + 1)
		low, e := extent.Lowest(l, n)
		if e != api.OK || extent.Count(low) != n || !extent.Within(low, l) {
			t.Fatalf("%d of %s: %s, %v", n, text(l), text(low), e)
		}
		rest, _ := extent.Cut(l, low)
		if len(low) > 0 && len(rest) > 0 && rest[0].At <= low[len(low)-1].At {
			t.Fatalf("%d of %s: %s, and %s are left", n, text(l), text(low), text(rest))
		}
	}
}
