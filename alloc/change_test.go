package alloc_test

import (
	"slices"
	"testing"

	"caulker/api"
)

func TestP17_3_MarkAndRelease(t *testing.T) {
	a := made(t, 3, 9)
	for _, x := range []struct{ mark, release, want string }{
		{"0.5", "", "0.5"},
		{"0.6 1.5 2.8", "", "0.5 0.6 1.5 2.8"},
		{"", "1.5", "0.5 0.6 2.8"},
		{"1.8 1.7 0.8", "2.8 0.5", "0.6 0.8 1.7 1.8"},
		{"2.5 2.6 2.7 2.8", "0.8 1.8 2.7 0.6 1.7", "2.5 2.6 2.8"},
		{"2.7", "2.8 2.7 2.6 2.5", ""},
		{"", "", ""},
	} {
		fine(t, a.Mark(list(x.mark)), a.Release(list(x.release)))
		has(t, x.mark+" and not "+x.release, a, 3, 9, list(x.want)...)
	}
	whole := places(3, 9)
	fine(t, a.Mark(whole))
	has(t, "all", a, 3, 9, whole...)
	slices.Reverse(whole)
	fine(t, a.Release(whole))
	has(t, "none", a, 3, 9)
}

func TestP17_3_OfNone(t *testing.T) {
	for _, used := range [][]api.Addr{nil, list("0.5 1.7"), places(2, 8)} {
		a := made(t, 2, 8, used...)
		fine(t, a.Mark(nil), a.Mark([]api.Addr{}), a.Release(nil), a.Release([]api.Addr{}))
		has(t, "of none", a, 2, 8, used...)
	}
}

// refused demands that a call of l is refused wherever the one that is wrong stands among others that are not, and that nothing is changed, what is taken next neither.
func refused(t *testing.T, what, used string, call func(a ledger, l []api.Addr) api.Errno, wrong []api.Addr, others string) {
	t.Helper()
	fit := list(others)
	for i := range len(fit) + 1 {
		a := made(t, 2, 9, list(used)...)
		l := slices.Insert(slices.Clone(fit), i, wrong...)
		if e := call(a, l); e != api.ErrArg {
			t.Fatalf("%s of %v: %v", what, l, e)
		}
		has(t, what, a, 2, 9, list(used)...)
		s := newSlow(2, 9, list(used)...)
		for _, there := range [][]bool{all(2), picked(2, 1), all(2), picked(2, 2), all(2), all(2)} {
			want, e := s.Take(there, 2)
			if got, f := a.Take(there, 2); !slices.Equal(got, want) || e != f {
				t.Fatalf("%s of %v: Take: %v, %v; want %v, %v", what, l, got, f, want, e)
			}
		}
	}
	a := made(t, 2, 9, list(used)...)
	fine(t, call(a, fit)) // without it the others may
}

type ledger interface {
	Mark(l []api.Addr) api.Errno
	Release(l []api.Addr) api.Errno
}

func mark(a ledger, l []api.Addr) api.Errno    { return a.Mark(l) }
func release(a ledger, l []api.Addr) api.Errno { return a.Release(l) }

func TestP17_3_Refused(t *testing.T) {
	used := "0.5 0.7 1.6"
	for _, x := range nowhere(2, 9) {
		one := []api.Addr{x}
		refused(t, "Mark", used, mark, one, "")
		refused(t, "Mark", used, mark, one, "0.6 1.8 1.5")
		refused(t, "Release", used, release, one, "")
		refused(t, "Release", used, release, one, "1.6 0.5 0.7")
	}
	for _, x := range []string{"0.5", "0.7", "1.6", "0.5 0.7", "0.5 0.5"} {
		refused(t, "Mark of a used one", used, mark, list(x), "")
		refused(t, "Mark of a used one", used, mark, list(x), "0.6 1.8 1.5")
	}
	for _, x := range []string{"0.6", "0.8", "1.5", "1.7 1.8", "1.8 1.8"} {
		refused(t, "Release of a free one", used, release, list(x), "")
		refused(t, "Release of a free one", used, release, list(x), "1.6 0.5 0.7")
	}
}

// One that stands twice is refused, side by side or apart; three times, four times too.
func TestP17_3_Twice(t *testing.T) {
	used := "0.5 0.7 1.6"
	for _, x := range []string{"0.6", "1.8"} {
		refused(t, "Mark", used, mark, list(x+" "+x), "1.5")
		refused(t, "Mark", used, mark, list(x), x+" 1.5 1.7")
		refused(t, "Mark", used, mark, list(x+" "+x+" "+x), "0.8")
		refused(t, "Mark", used, mark, list(x+" 1.5 "+x+" "+x), x)
	}
	for _, x := range []string{"0.5", "1.6"} {
		refused(t, "Release", used, release, list(x+" "+x), "0.7")
		refused(t, "Release", used, release, list(x), x+" 0.7")
		refused(t, "Release", used, release, list(x+" "+x+" "+x), "0.7")
		refused(t, "Release", used, release, list(x+" 0.7 "+x+" "+x), x)
	}
}

func TestP17_3_LongLists(t *testing.T) {
	a := made(t, 8, 4096)
	whole := places(8, 4096)
	for range 2 {
		errs(t, api.ErrArg, a.Mark(append(slices.Clone(whole), at(3, 77))), a.Release(whole))
		fine(t, a.Mark(whole))
		errs(t, api.ErrArg, a.Mark(whole[:1]), a.Release(append(slices.Clone(whole), at(7, 4095))))
		noTake(t, a, all(8), 1, api.ErrNoSpace)
		fine(t, a.Release(whole))
	}
	has(t, "behind all", a, 8, 4096)
	takes(t, a, all(8), 3, list("0.5 1.5 2.5")...)
}

// Each place by itself is marked and released, and no other one with it.
func TestP17_3_EachPlaceAlone(t *testing.T) {
	free, full := made(t, 2, 140), made(t, 2, 140, places(2, 140)...)
	for i, x := range places(2, 140) {
		one := []api.Addr{x}
		fine(t, free.Mark(one), full.Release(one))
		has(t, "marked", free, 2, 140, x)
		has(t, "released", full, 2, 140, slices.Delete(places(2, 140), i, i+1)...)
		fine(t, free.Release(one), full.Mark(one))
	}
	has(t, "behind all", free, 2, 140)
	has(t, "behind all", full, 2, 140, places(2, 140)...)
}

func TestP17_4_HasFreeUsed(t *testing.T) {
	a := made(t, 3, 70, list("2.69 0.5 1.64 0.64 1.63 2.5 0.69")...)
	has(t, "at first", a, 3, 70, list("0.5 0.64 0.69 1.63 1.64 2.5 2.69")...)
	takes(t, a, all(3), 3, list("1.5 2.6 0.6")...)
	has(t, "behind Take", a, 3, 70, list("0.5 0.6 0.64 0.69 1.5 1.63 1.64 2.5 2.6 2.69")...)
	fine(t, a.Release(list("1.64 0.5")))
	has(t, "behind Release", a, 3, 70, list("0.6 0.64 0.69 1.5 1.63 2.5 2.6 2.69")...)
	fine(t, a.Mark(list("1.65")))
	has(t, "behind Mark", a, 3, 70, list("0.6 0.64 0.69 1.5 1.63 1.65 2.5 2.6 2.69")...)
	errs(t, api.ErrArg, a.Mark(list("1.65")), a.Release(list("1.64")), a.Mark(list("1.4")))
	noTake(t, a, all(2), 1, api.ErrArg)
	noTake(t, a, make([]bool, 3), 1, api.ErrNoSpace)
	room(t, a, all(3), 3, 62)
	has(t, "behind what is refused", a, 3, 70, list("0.6 0.64 0.69 1.5 1.63 1.65 2.5 2.6 2.69")...)
}
