package alloc_test

import (
	"fmt"
	"slices"
	"testing"

	"caulker/addr"
	"caulker/alloc"
	"caulker/api"
)

// some are addresses for Mark or Release: mostly such as may be changed; now and then a wrong one.
func (d *dice) some(fit []api.Addr, devs, sectors int) []api.Addr {
	fit = slices.Clone(fit)
	var l []api.Addr
	for range min(len(fit), d.below(1+d.below(6))) {
		i := d.below(len(fit))
		l = append(l, fit[i])
		fit = slices.Delete(fit, i, i+1)
	}
	switch d.below(8) {
	case 0:
		l = slices.Insert(l, d.below(len(l)+1), at(d.below(devs), 5+d.below(sectors-5)))
	case 1:
		l = slices.Insert(l, d.below(len(l)+1), nowhere(devs, sectors)[d.below(70)])
	case 2:
		if len(l) > 0 {
			l = slices.Insert(l, d.below(len(l)+1), l[d.below(len(l))])
		}
	}
	return l
}

// there is who is there: mostly all; now and then of another length.
func (d *dice) there(devs int) []bool {
	switch d.below(12) {
	case 0:
		return all(d.below(10))
	case 1, 2, 3, 4:
		return picked(devs, d.below(256))
	}
	return all(devs)
}

// same demands that all that can be asked of both is the same.
func same(t *testing.T, what string, d *dice, a *alloc.Alloc, s *slow, devs, sectors int) {
	t.Helper()
	has(t, what, a, devs, sectors, s.used...)
	there, copies := d.there(devs), d.below(5)
	n, e := a.Room(there, copies)
	if m, f := s.Room(there, copies); n != m || e != f {
		t.Fatalf("%s: Room(%v, %d): %d, %v; want %d, %v", what, there, copies, n, e, m, f)
	}
}

// TestP17_5_AllCallsAgainstTheLongWay holds each call's answer, and all that can be asked behind it, against a ledger as the words have it, in any order of calls.
func TestP17_5_AllCallsAgainstTheLongWay(t *testing.T) {
	d := dice(1)
	for round := range 250 {
		devs, sectors := 2+d.below(7), 8+d.below(4)
		if round%10 == 0 {
			devs, sectors = 2, 60+d.below(12)
		}
		var used []api.Addr
		for range d.below(2 * devs) {
			used = append(used, at(d.below(devs), 5+d.below(sectors-5)))
		}
		a, s := made(t, devs, sectors, used...), newSlow(devs, sectors, used...)
		for i := range 60 {
			what := fmt.Sprint("round ", round, ", call ", i)
			switch d.below(5) {
			case 0:
				l := d.some(s.free, devs, sectors)
				if e, f := a.Mark(l), s.Mark(l); e != f {
					t.Fatalf("%s: Mark(%v): %v, want %v", what, l, e, f)
				}
			case 1:
				l := d.some(s.used, devs, sectors)
				if e, f := a.Release(l), s.Release(l); e != f {
					t.Fatalf("%s: Release(%v): %v, want %v", what, l, e, f)
				}
			default:
				there, copies := d.there(devs), 1+d.below(3)
				if d.below(20) == 0 {
					copies = d.below(6) - 1
				}
				l, e := a.Take(there, copies)
				if m, f := s.Take(there, copies); e != f || !slices.Equal(l, m) {
					t.Fatalf("%s: Take(%v, %d): %v, %v; want %v, %v", what, there, copies, l, e, m, f)
				}
			}
			same(t, what, &d, a, s, devs, sectors)
		}
	}
}

// What is taken is apart, was free, is used from then on, and comes again just when it was released.
func TestP17_5_TakenIsApartAndWasFree(t *testing.T) {
	d := dice(2)
	for range 200 {
		devs, sectors := 2+d.below(7), 8+d.below(20)
		a := made(t, devs, sectors)
		var blocks [][]api.Addr
		for range 200 {
			if n := len(blocks); n > 0 && d.below(3) == 0 {
				i := d.below(n)
				fine(t, a.Release(blocks[i]))
				blocks = slices.Delete(blocks, i, i+1)
			}
			before := a.Used()
			l, e := a.Take(picked(devs, d.below(256)), 1+d.below(3))
			if e != api.OK {
				continue
			}
			if !addr.Apart(l) || len(addr.Both(l, before)) > 0 || !slices.Equal(a.Used(), addr.Union(before, l)) {
				t.Fatalf("taken %v, ahead %v, behind %v", l, before, a.Used())
			}
			blocks = append(blocks, l)
		}
		has(t, "at the end", a, devs, sectors, addr.Sort(slices.Concat(blocks...))...)
	}
}

// As often as Room says can be taken, and no oftener; it goes down by one each time.
func TestP17_5_AsOftenAsRoomSays(t *testing.T) {
	d := dice(3)
	for range 300 {
		devs, sectors := 2+d.below(7), 8+d.below(20)
		var used []api.Addr
		for range d.below(devs * (sectors - 5)) {
			used = append(used, at(d.below(devs), 5+d.below(sectors-5)))
		}
		a := made(t, devs, sectors, used...)
		there, copies := picked(devs, d.below(256)|d.below(256)), 1+d.below(3)
		n, e := a.Room(there, copies)
		fine(t, e)
		for left := n; left > 0; left-- {
			room(t, a, there, copies, left)
			if l, e := a.Take(there, copies); e != api.OK {
				t.Fatalf("room for %d, %d left: %v, %v", n, left, l, e)
			}
		}
		before := a.Used()
		noTake(t, a, there, copies, api.ErrNoSpace)
		has(t, "one more", a, devs, sectors, before...)
	}
}

// Ledgers of the greatest size, as often as Room says.
func TestP17_5_AsOftenAsRoomSaysOfTheMost(t *testing.T) {
	for copies := 1; copies <= 3; copies++ {
		a := made(t, 8, 4096)
		n, e := a.Room(all(8), copies)
		fine(t, e)
		for range n {
			_, e := a.Take(all(8), copies)
			fine(t, e)
		}
		noTake(t, a, all(8), copies, api.ErrNoSpace)
		if got := len(a.Used()); got != n*copies {
			t.Errorf("%d used, want %d of %d copies", got, n, copies)
		}
	}
}

// Two ledgers that were made alike and treated alike answer alike, however many places waited before.
func TestP17_5_AnotherWayToTheSame(t *testing.T) {
	d := dice(4)
	for range 200 {
		a, b := made(t, 3, 70, places(3, 70)...), made(t, 3, 70)
		var l []api.Addr
		for _, x := range places(3, 70) {
			if d.below(2) == 0 {
				l = append(l, x)
			}
		}
		for _, x := range slices.Backward(l) {
			fine(t, a.Release([]api.Addr{x}))
		}
		fine(t, b.Mark(addr.Minus(places(3, 70), l)))
		for {
			there, copies := picked(3, 1+d.below(7)), 1+d.below(3)
			x, e := a.Take(there, copies)
			y, f := b.Take(there, copies)
			if e != f || !slices.Equal(x, y) {
				t.Fatalf("Take(%v, %d): %v, %v and %v, %v", there, copies, x, e, y, f)
			}
			if e != api.OK {
				break
			}
		}
	}
}
