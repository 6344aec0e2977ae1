package array_test

import (
	"fmt"
	"math"
	"slices"
	"testing"

	"caulker/api"
)

func TestP15_4_FuseArguments(t *testing.T) {
	a := made(t, 2, 8)
	for _, n := range []int{-1, -2, -256, -1 << 31, -1 << 32, math.MinInt, math.MinInt + 1} {
		errs(t, api.ErrArg, a.Fuse(n))
	}
	fine(t, a.Write(0, 5, of(1)), a.Fuse(1))
	errs(t, api.ErrArg, a.Fuse(-1)) // the fuse that it has stays
	fine(t, a.Write(0, 5, of(2)))
	errs(t, api.ErrBroken, a.Write(0, 5, of(3)))
	errs(t, api.ErrBroken, a.Fuse(0), a.Fuse(3), a.Fuse(-1))
	fine(t, a.Crash(nil, 0), a.Write(0, 5, of(3)))
}

func TestP15_4_ALaterFuseCounts(t *testing.T) {
	a := made(t, 2, 8)
	fine(t, a.Fuse(0), a.Fuse(2), a.Write(0, 5, of(1)), a.Fuse(2), a.Write(0, 5, of(2)), a.Write(0, 5, of(3)), a.Fuse(math.MaxInt))
	for range 50 {
		fine(t, a.Flush(1))
	}
	fine(t, a.Fuse(0))
	ups(t, a, true, true)
	tells(t, a, 0, 5, of(3))
	errs(t, api.ErrBroken, a.Flush(1))
	ups(t, a, false, false)
	counts(t, a, 3, 53)
}

func TestP15_4_CrashArguments(t *testing.T) {
	a := made(t, 2, 8)
	fine(t, a.Write(0, 5, of(1)), a.Lose(0), a.Fail(1, 1), a.Fuse(0))
	for _, torn := range append(nobody(256), -255) {
		errs(t, api.ErrArg, a.Crash(nil, torn), a.Crash([]bool{true}, torn))
		counts(t, a, 1, 1)
	}
	errs(t, api.ErrBroken, a.Flush(0))
	errs(t, api.ErrArg, a.Crash(nil, 256), a.Crash(nil, -1))
	ups(t, a, false, false)
	counts(t, a, 1, 1)
	fine(t, a.Crash(nil, 255))
	ups(t, a, true, true)
	tells(t, a, 0, 5, joined(of(1), none, 255))
}

func TestP15_4_Torn(t *testing.T) {
	old, next := rising(), of(0)
	for i := range next {
		next[i] = byte(200 - i)
	}
	for torn := range 256 {
		a := made(t, 2, 8)
		fine(t, a.Write(1, 5, old), a.Flush(1), a.Write(1, 5, next), a.Write(1, 6, next), a.Crash(nil, torn))
		tells(t, a, 1, 5, joined(next, old, torn))
		tells(t, a, 1, 6, none) // the first one alone is torn
		fine(t, a.Crash(nil, 255))
		tells(t, a, 1, 5, joined(next, old, torn))
	}
}

// A torn write to a sector that others are laid on as well: the kept ones ahead of it are there where it is torn, those behind it stand over it.
func TestP15_4_TornAmongOthersOfItsSector(t *testing.T) {
	for keep := range 16 {
		for _, torn := range []int{0, 1, 100, 255} {
			a := made(t, 2, 8)
			fine(t, a.Write(0, 5, of(9)), a.Flush(0))
			want, first, kept := of(9), true, []bool{}
			for i := range 4 {
				b := of(byte(i + 1))
				fine(t, a.Write(0, 5, b))
				kept = append(kept, keep>>i&1 == 1)
				if kept[i] {
					want = b
				} else if first {
					want, first = joined(b, want, torn), false
				}
			}
			fine(t, a.Crash(kept, torn))
			tells(t, a, 0, 5, want)
		}
	}
}

func TestP15_4_AllThatMayBeKept(t *testing.T) {
	places := [][2]int{{0, 5}, {1, 5}, {0, 5}, {0, 6}, {1, 5}, {1, 0}}
	for keep := range 1 << 6 {
		for n := range 8 { // as many bools as that
			for _, torn := range []int{0, 77} {
				a, s := made(t, 2, 8), newSlow(2, 8)
				kept := make([]bool, n)
				for i := range kept {
					kept[i] = keep>>i&1 == 1 || i > 5
				}
				for i, p := range places {
					fine(t, a.Write(p[0], p[1], of(byte(i+1))), s.Write(p[0], p[1], of(byte(i+1))))
				}
				fine(t, a.Crash(kept, torn), s.Crash(kept, torn))
				same(t, fmt.Sprint("crash of ", kept, ", ", torn), a, s)
			}
		}
	}
}

func TestP15_4_WhatIsLostIsNotCounted(t *testing.T) {
	a := made(t, 2, 8)
	fine(t, a.Lose(0), a.Write(0, 1, of(1)), a.Write(0, 2, of(2)), a.Stray(1, 3), a.Write(1, 6, of(3)))
	fine(t, a.Crash([]bool{false, true}, 128)) // 0 is the write to 0.2
	tells(t, a, 0, 1, none)
	tells(t, a, 0, 2, joined(of(2), none, 128))
	tells(t, a, 1, 3, of(3))
	tells(t, a, 1, 6, none)
}

func TestP15_4_RoomBehindKeepDoesNotCount(t *testing.T) {
	for n := range 4 {
		a := made(t, 2, 8)
		for i := range 4 {
			fine(t, a.Write(0, i, of(byte(i+1))))
		}
		room := []bool{true, true, true, true}
		fine(t, a.Crash(room[:n], 0))
		for i := range 4 {
			if i < n {
				tells(t, a, 0, i, of(byte(i+1)))
			} else {
				tells(t, a, 0, i, none)
			}
		}
		if !slices.Equal(room, []bool{true, true, true, true}) {
			t.Error("what was handed in is changed")
		}
	}
}

func TestP15_4_ACrashOfNothing(t *testing.T) {
	a := made(t, 2, 8)
	fine(t, a.Write(0, 5, of(1)), a.Flush(0))
	for _, keep := range [][]bool{nil, {}, {true}, slices.Repeat([]bool{true, false}, 5000)} {
		fine(t, a.Crash(keep, 255))
		tells(t, a, 0, 5, of(1))
		tells(t, a, 0, 0, none)
		counts(t, a, 0, 2)
		ups(t, a, true, true)
	}
}

func TestP15_4_ACrashEndsFaults(t *testing.T) {
	for _, isOut := range []bool{false, true} {
		a := made(t, 3, 8)
		for dev := range 3 {
			fine(t, a.Lose(dev), a.Stray(dev, 2), a.Fail(dev, 5))
		}
		fine(t, a.Pull(2), a.Fuse(0))
		if isOut {
			errs(t, api.ErrBroken, a.Flush(0))
		}
		fine(t, a.Crash(nil, 0))
		ups(t, a, true, true, false) // what is gone stays so
		errs(t, api.ErrGone, a.Write(2, 5, of(1)))
		for dev := range 2 {
			tells(t, a, dev, 5, none)
			fine(t, a.Write(dev, 5, of(1)))
			tells(t, a, dev, 5, of(1))
			tells(t, a, dev, 2, none)
			fine(t, a.Flush(dev))
		}
		fine(t, a.Fit(2), a.Write(2, 5, of(1)))
		tells(t, a, 2, 5, of(1))
		counts(t, a, 1, 5)
	}
}

func TestP15_4_WhatWasLooseIsSoNoMore(t *testing.T) {
	a := made(t, 2, 8)
	fine(t, a.Write(0, 5, of(1)), a.Write(0, 6, of(2)), a.Write(1, 5, of(3)), a.Crash([]bool{false, true}, 0))
	counts(t, a, 0, 3)
	fine(t, a.Flush(0), a.Flush(1))
	tells(t, a, 0, 5, none)
	tells(t, a, 0, 6, of(2))
	tells(t, a, 1, 5, none)
	fine(t, a.Write(0, 7, of(4)), a.Crash([]bool{true, true, true, true}, 255)) // numbers begin anew
	tells(t, a, 0, 5, none)
	tells(t, a, 0, 7, of(4))
	fine(t, a.Spoil(0, 7, 0, 1), a.Spoil(0, 5, 0, 1))
	tells(t, a, 0, 7, joined(of(5), of(4), 1))
	tells(t, a, 0, 5, joined(of(1), none, 1))
}

func TestP15_4_OfAPulledDeviceNothingIsLoose(t *testing.T) {
	a := made(t, 3, 8)
	fine(t, a.Write(0, 1, of(1)), a.Write(1, 1, of(2)), a.Write(2, 1, of(3)), a.Write(1, 2, of(4)), a.Write(0, 2, of(5)))
	fine(t, a.Pull(1))
	counts(t, a, 3, 5)
	fine(t, a.Crash([]bool{false, true, false}, 10)) // 0.1 2.1 0.2
	tells(t, a, 0, 1, joined(of(1), none, 10))
	tells(t, a, 2, 1, of(3))
	tells(t, a, 0, 2, none)
	ups(t, a, true, false, true)
}
