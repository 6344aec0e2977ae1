package ring_test

import (
	"slices"
	"strconv"
	"testing"

	"caulker/api"
	"caulker/ring"
)

func TestP10_4_TheNextThreeLeaveASlot(t *testing.T) {
	var all []int
	for txg := 1; txg < 3000; txg++ {
		all = append(all, txg, 1<<31+1-txg)
	}
	d := dice(7)
	for range 3000 {
		all = append(all, 1+d.below(1<<31))
	}
	for _, txg := range all {
		slot, is := ring.Slot(txg)
		if !is || slot < 1 || slot > 4 {
			t.Fatalf("Slot(%d): %d, %t", txg, slot, is)
		}
		for next := txg + 1; next <= min(txg+4, 1<<31); next++ {
			if n, is := ring.Slot(next); !is || (n == slot) != (next == txg+4) {
				t.Fatalf("Slot(%d): %d, %t; Slot(%d): %d", next, n, is, txg, slot)
			}
		}
	}
}

// Commits are laid one behind the other, each in its slot: of the last four, and of no other one, is told.
func TestP10_4_TheLastFourAreFound(t *testing.T) {
	for _, first := range []int{1, 2, 3, 4, 254, 1<<31 - 11} {
		slots := make([][]byte, 4)
		var done []api.Uber
		for txg := first; txg < first+12; txg++ {
			u := full(txg)
			slot, _ := ring.Slot(txg)
			slots[slot-1] = sector(u)
			done = slices.Insert(done, 0, u)
			done = done[:min(4, len(done))]
			what := "behind " + strconv.Itoa(txg)
			l, e := ring.Found(slots, mine())
			if e != api.OK || len(l) != len(done) {
				t.Fatalf("%s: %s, %v", what, texts(l), e)
			}
			bests(t, what, l, done)
			uses(t, what, slots, len(done), api.OK)
		}
	}
}

// A commit that does not come to its end spoils its own slot: the three ahead of it stand.
func TestP10_4_ATornOneLeavesTheThreeAhead(t *testing.T) {
	for first := 1; first <= 4; first++ {
		was := make([][]byte, 4)
		var done []api.Uber
		for txg := first; txg < first+4; txg++ {
			was[place(txg)] = sector(full(txg))
			done = slices.Insert(done, 0, full(txg))
		}
		next := full(first + 4)
		slot, _ := ring.Slot(next.Txg)
		for n := range 257 {
			slots := copies(was)
			copy(slots[slot-1], sector(next)[:n])
			l, _ := ring.Found(slots, mine())
			got := ring.Best(l)
			switch { // the old one, the new one, or none of both: never a third one
			case same(got, done), same(got, done[:3]), same(got, slices.Concat([]api.Uber{next}, done[:3])):
			default:
				t.Fatalf("torn behind %d: %s", n, texts(got))
			}
		}
	}
}

func TestP10_4_WhatIsLaidElsewhereIsNotFound(t *testing.T) {
	d := dice(8)
	for range 300 {
		u := d.uber()
		own, _ := ring.Slot(u.Txg)
		for slot := 1; slot <= 4; slot++ {
			l, e := ring.Found(laid(map[int][]byte{slot - 1: sector(u)}), u.Pool)
			if e != api.OK || (len(l) == 1) != (slot == own) || len(l) > 1 {
				t.Fatalf("%s in slot %d: %s, %v", text(u), slot, texts(l), e)
			}
		}
	}
}

func TestP10_4_OrderAndNumberDoNotCount(t *testing.T) {
	d := dice(9)
	for range 100 {
		l := slices.Concat(alike()[:d.below(9)], wrong()[:d.below(5)], []api.Uber{d.uber(), d.uber()})
		want := ring.Best(l)
		for range 5 {
			for range d.below(len(l)) {
				l = append(l, l[d.below(len(l))])
			}
			shuffle(&d, l)
			bests(t, "shuffled, some more often", l, want)
		}
		bests(t, "what is told, told again", want, want)
	}
}
