package alloc_test

import (
	"slices"
	"testing"

	"caulker/alloc"
	"caulker/api"
)

// spoil lays x at all places of a list, its spare room too.
func spoil[T any](l []T, x T) {
	l = l[:cap(l)]
	for i := range l {
		l[i] = x
	}
}

// roomy is a list with others behind it as spare room, which count nothing.
func roomy(text, behind string) []api.Addr {
	l := append(list(text), list(behind)...)
	return l[:len(list(text))]
}

func TestP17_5_WhatIsHandedInStays(t *testing.T) {
	used, marked, released := roomy("1.6 0.5 1.6", "1.7 0.4"), roomy("1.5 0.7", "0.6 0.5"), roomy("1.6 0.5", "0.7 0.7")
	there := append(all(2), true, false)[:2]
	lists := [][]api.Addr{used, marked, released}
	was := make([][]api.Addr, 3)
	for i, l := range lists {
		was[i] = slices.Clone(l[:cap(l)])
	}
	stay := func(what string) {
		t.Helper()
		for i, l := range lists {
			if !slices.Equal(l[:cap(l)], was[i]) {
				t.Fatalf("%s: %v, was %v", what, l[:cap(l)], was[i])
			}
		}
		if !slices.Equal(there[:4], []bool{true, true, true, false}) {
			t.Fatalf("%s: there %v", what, there[:4])
		}
	}
	a := made(t, 2, 8, used...)
	has(t, "New", a, 2, 8, list("0.5 1.6")...)
	stay("New")
	fine(t, a.Mark(marked))
	has(t, "Mark", a, 2, 8, list("0.5 0.7 1.5 1.6")...)
	stay("Mark")
	fine(t, a.Release(released))
	has(t, "Release", a, 2, 8, list("0.7 1.5")...)
	stay("Release")
	takes(t, a, there, 2, list("0.5 1.6")...)
	room(t, a, there, 2, 1)
	stay("Take")
	errs(t, api.ErrArg, a.Mark(marked), a.Release(append(released[:2:2], at(1, 7))), a.Mark(marked[:3]), a.Release(released[:4]))
	noTake(t, a, there[:3], 2, api.ErrArg)
	noTake(t, a, there, 4, api.ErrArg)
	if x, e := alloc.New(2, 8, used[:5]); x != nil || e != api.ErrArg {
		t.Fatal(x, e)
	}
	stay("what is refused")
}

func TestP17_5_WhatIsHandedInIsNotKept(t *testing.T) {
	used, marked, released, there := roomy("1.6 0.5", "1.7"), roomy("0.7 1.5", "0.6"), roomy("0.5", "1.6"), all(2)
	a := made(t, 2, 8, used...)
	spoil(used, at(1, 7))
	has(t, "New", a, 2, 8, list("0.5 1.6")...)
	fine(t, a.Mark(marked))
	spoil(marked, at(0, 6))
	has(t, "Mark", a, 2, 8, list("0.5 0.7 1.5 1.6")...)
	fine(t, a.Release(released))
	spoil(released, at(1, 6))
	has(t, "Release", a, 2, 8, list("0.7 1.5 1.6")...)
	takes(t, a, there, 1, at(0, 5))
	spoil(there, false)
	takes(t, a, all(2), 2, list("0.6 1.7")...)
}

func TestP17_5_WhatIsToldIsNewMemory(t *testing.T) {
	a := made(t, 3, 9, list("0.5 1.6 2.8")...)
	for range 3 {
		want := a.Used()
		taken, e := a.Take(all(3), 2)
		fine(t, e)
		spoil(taken, at(2, 7))
		fine(t, a.Release(usedBut(a, want)))
		for range 2 { // the second one is told behind the first one was spoiled
			free, used := a.Free(), a.Used()
			if !slices.Equal(free, []int{3, 3, 3}) || !slices.Equal(used, want) {
				t.Fatalf("free %v, used %v", free, used)
			}
			spoil(free, 77)
			spoil(used, at(2, 7))
		}
		has(t, "behind spoilt answers", a, 3, 9, want...)
	}
	taken, e := a.Take(all(3), 3)
	free, used := a.Free(), a.Used()
	fine(t, e, a.Release(list("2.8 0.5")), a.Mark(list("1.7")))
	takes(t, a, all(3), 3, list("0.5 2.6 1.8")...)
	if !slices.Equal(taken, list("0.6 1.5 2.5")) || !slices.Equal(free, []int{2, 2, 2}) || !slices.Equal(used, list("0.5 0.6 1.5 1.6 2.5 2.8")) {
		t.Fatalf("what was told is another thing now: %v, %v, %v", taken, free, used)
	}
}

// usedBut are those that are used now, and were not.
func usedBut(a *alloc.Alloc, were []api.Addr) []api.Addr {
	return slices.DeleteFunc(a.Used(), func(x api.Addr) bool { return slices.Contains(were, x) })
}
