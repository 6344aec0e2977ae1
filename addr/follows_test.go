package addr_test

import (
	"slices"
	"testing"

	"caulker/addr"
	"caulker/api"
)

func TestP3_3_WhatIsToldRises(t *testing.T) {
	d := dice(5)
	for range 3000 {
		a, b, dev := d.list(), d.list(), d.number()
		for _, c := range calls() {
			l := c.do(a, b, dev)
			for i := 1; i < len(l); i++ {
				if !addr.Less(l[i-1], l[i]) {
					t.Fatalf("%s of %v, %v, %d: %v", c.name, a, b, dev, l)
				}
			}
		}
	}
}

func TestP3_3_UnionIsItsThreeParts(t *testing.T) {
	d := dice(6)
	for range 3000 {
		a, b := d.list(), d.list()
		parts := [][]api.Addr{addr.Minus(a, b), addr.Minus(b, a), addr.Both(a, b)}
		all := addr.Union(a, b)
		together := slices.Concat(parts...)
		if !slices.Equal(addr.Sort(together), all) || len(together) != len(all) {
			t.Fatalf("%v, %v: the parts %v, the union %v", a, b, parts, all)
		}
		for i, p := range parts {
			for _, q := range parts[:i] {
				if both := addr.Both(p, q); len(both) != 0 {
					t.Fatalf("%v, %v: two of the parts %v have %v in common", a, b, parts, both)
				}
			}
		}
	}
}

func TestP3_3_OfTwoUnlikeJustOneIsAhead(t *testing.T) {
	all := places(edges())
	for _, a := range all {
		for _, b := range all {
			one, other := addr.Less(a, b), addr.Less(b, a)
			if a == b && (one || other) || a != b && one == other {
				t.Fatalf("%v and %v: %v, %v", a, b, one, other)
			}
		}
	}
}

func TestP3_3_AheadGoesOnAlongThree(t *testing.T) {
	all := places([]int{-1, 0, 1, 5, 4096})
	for _, a := range all {
		for _, b := range all {
			for _, c := range all {
				if addr.Less(a, b) && addr.Less(b, c) && !addr.Less(a, c) {
					t.Fatalf("%v, %v, %v", a, b, c)
				}
			}
		}
	}
}

func TestP3_3_TheOrderOfAListDoesNotCount(t *testing.T) {
	d := dice(7)
	for range 2000 {
		a, b, dev := d.list(), d.list(), d.number()
		turnedA, turnedB := slices.Concat(a, a), slices.Clone(b)
		slices.Reverse(turnedA)
		slices.Reverse(turnedB)
		for _, c := range calls() {
			if one, other := c.do(a, b, dev), c.do(turnedA, turnedB, dev); !slices.Equal(one, other) {
				t.Fatalf("%s of %v, %v, %d: %v, and %v when they are turned about", c.name, a, b, dev, one, other)
			}
		}
	}
}
