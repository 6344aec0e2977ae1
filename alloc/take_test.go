package alloc_test

import (
	"math"
	"slices"
	"testing"

	"caulker/alloc"
	"caulker/api"
)

// TestP17_2_Examples is the chapter's table, line by line.
func TestP17_2_Examples(t *testing.T) {
	a := made(t, 2, 8, list("0.5")...)
	if l := a.Free(); !slices.Equal(l, []int{2, 3}) {
		t.Error(l)
	}
	takes(t, a, all(2), 2, list("1.5 0.6")...)
	takes(t, a, all(2), 1, list("1.6")...)
	has(t, "behind two", a, 2, 8, list("0.5 0.6 1.5 1.6")...)
	fine(t, a.Release(list("1.5")))
	takes(t, a, all(2), 1, list("1.5")...)
	errs(t, api.ErrArg, a.Release(list("1.5 1.5")), a.Release(list("1.7")), a.Mark(list("0.5")))
	takes(t, a, all(2), 2, list("0.7 1.7")...)
	room(t, a, all(2), 2, 0)
	noTake(t, a, all(2), 1, api.ErrNoSpace)
	noTake(t, a, all(1), 1, api.ErrArg)
	if x, e := alloc.New(2, 8, list("0.4")); x != nil || e != api.ErrArg {
		t.Error(x, e)
	}
	if x, e := alloc.New(1, 8, nil); x != nil || e != api.ErrArg {
		t.Error(x, e)
	}
	if a.Has(at(0, 4)) {
		t.Error("0.4")
	}
}

func TestP17_2_TheMostRoomIsAhead(t *testing.T) {
	for _, x := range []struct {
		devs   int
		used   string
		bits   int // who is there
		copies int
		want   string
	}{
		{2, "", 3, 1, "0.5"},
		{2, "", 3, 2, "0.5 1.5"},
		{2, "", 3, 3, "0.5 1.5"}, // fewer, as fewer are there
		{2, "0.7", 3, 1, "1.5"},
		{2, "0.7", 3, 2, "1.5 0.5"},
		{2, "0.7", 1, 2, "0.5"},
		{2, "0.5 0.6 0.7", 3, 1, "1.5"},
		{2, "0.5 0.6 0.7", 2, 3, "1.5"},
		{3, "0.5 0.6 1.5", 7, 3, "2.5 1.6 0.7"},
		{3, "0.5 0.6 1.5", 7, 2, "2.5 1.6"},
		{3, "0.5 0.6 1.5", 3, 2, "1.6 0.7"},
		{3, "0.5 0.6 1.5", 3, 3, "1.6 0.7"},
		{3, "0.5 0.6 1.5", 5, 2, "2.5 0.7"},
		{3, "2.5 0.6", 7, 3, "1.5 0.5 2.6"},
		{3, "2.5 0.6 1.6", 7, 2, "0.5 1.5"},
		{8, "", 255, 3, "0.5 1.5 2.5"},
		{8, "", 224, 3, "5.5 6.5 7.5"},
		{8, "", 128, 3, "7.5"},
		{8, "0.5 1.5 2.5 3.5 4.5 5.5 6.5", 255, 3, "7.5 0.6 1.6"},
		{8, "0.5 1.6 2.7 3.5 3.6 4.7", 255, 2, "5.5 6.5"},
		{8, "0.5 1.6 2.7 3.5 3.6 4.7", 30, 3, "1.5 2.5 4.5"},
	} {
		a := made(t, x.devs, 8, list(x.used)...)
		takes(t, a, picked(x.devs, x.bits), x.copies, list(x.want)...)
		after := append(list(x.used), list(x.want)...)
		slices.SortFunc(after, func(a, b api.Addr) int { return (a.Dev-b.Dev)*10 + a.At - b.At })
		has(t, x.used+" and "+x.want, a, x.devs, 8, after...)
	}
}

func TestP17_2_NoSpace(t *testing.T) {
	for _, x := range []struct {
		devs   int
		used   string
		bits   int
		copies int
	}{
		{2, "", 0, 1}, // none there
		{2, "", 0, 3},
		{8, "", 0, 2},
		{2, "0.5 0.6 0.7", 3, 2}, // one is full
		{2, "0.5 0.6 0.7", 3, 3},
		{2, "1.5 1.6 1.7", 3, 2},
		{2, "0.5 0.6 0.7", 1, 1}, // the one there is full
		{2, "1.5 1.6 1.7", 2, 3},
		{2, "0.5 0.6 0.7 1.5 1.6 1.7", 3, 1}, // all are
		{3, "0.5 0.6 0.7", 7, 3},
		{3, "0.5 0.6 0.7", 5, 2},
		{3, "0.5 0.6 0.7 2.5 2.6 2.7", 7, 2},
		{3, "0.5 0.6 0.7 2.5 2.6 2.7", 5, 1},
	} {
		a := made(t, x.devs, 8, list(x.used)...)
		noTake(t, a, picked(x.devs, x.bits), x.copies, api.ErrNoSpace)
		has(t, "refused", a, x.devs, 8, list(x.used)...)
		takes(t, made(t, 2, 8), all(2), 2, list("0.5 1.5")...)
	}
}

func TestP17_2_WhoIsThereAndHowManyCopies(t *testing.T) {
	for devs := 2; devs <= 8; devs++ {
		a := made(t, devs, 8)
		for n := range 12 {
			for _, copies := range []int{-1, 0, 1, 2, 3, 4, 5, 257, 1<<32 + 1, math.MinInt, math.MaxInt} {
				if n == devs && copies >= 1 && copies <= 3 {
					room(t, a, all(n), copies, 3*devs/min(copies, devs))
					noTake(t, a, make([]bool, n), copies, api.ErrNoSpace)
				} else {
					noTake(t, a, all(n), copies, api.ErrArg)
					noTake(t, a, make([]bool, n), copies, api.ErrArg)
				}
			}
		}
		noTake(t, a, nil, 1, api.ErrArg)
		has(t, "refused", a, devs, 8)
	}
}

// An argument that may not be is told ahead of room that is not there.
func TestP17_2_ErrArgAheadOfErrNoSpace(t *testing.T) {
	a := made(t, 2, 8, places(2, 8)...)
	for _, copies := range []int{0, 4} {
		noTake(t, a, all(2), copies, api.ErrArg)
	}
	for _, n := range []int{0, 1, 3} {
		noTake(t, a, all(n), 1, api.ErrArg)
	}
	noTake(t, a, all(2), 1, api.ErrNoSpace)
}

func TestP17_2_TheLeastSector(t *testing.T) {
	a := made(t, 2, 12, list("0.6 0.9")...)
	only := picked(2, 1)
	takes(t, a, only, 1, at(0, 5))
	takes(t, a, only, 2, at(0, 7))
	takes(t, a, only, 3, at(0, 8))
	takes(t, a, only, 1, at(0, 10))
	fine(t, a.Release(list("0.7")))
	takes(t, a, only, 1, at(0, 7)) // ahead of 0.11, which waits longer
	fine(t, a.Release(list("0.9 0.5 0.8")))
	takes(t, a, only, 1, at(0, 5))
	takes(t, a, only, 1, at(0, 8))
	fine(t, a.Mark(list("0.9")))
	takes(t, a, only, 1, at(0, 11))
	noTake(t, a, only, 1, api.ErrNoSpace)
	fine(t, a.Release(list("0.11")), a.Release(list("0.5")), a.Release(list("0.8")))
	for _, sector := range []int{5, 8, 11} {
		takes(t, a, only, 1, at(0, sector))
	}
	noTake(t, a, only, 1, api.ErrNoSpace)
	has(t, "at the end", a, 2, 12, places(1, 12)...)
}

func TestP17_2_TheLeastSectorBehindEachRelease(t *testing.T) {
	for _, x := range places(2, 140) {
		a := made(t, 2, 140, places(2, 140)...)
		fine(t, a.Release([]api.Addr{x}))
		room(t, a, all(2), 1, 1)
		takes(t, a, all(2), 1, x)
		noTake(t, a, all(2), 1, api.ErrNoSpace)
	}
}

func TestP17_2_TheLeastSectorPastOneThatIsMarked(t *testing.T) {
	for sector := 5; sector < 139; sector++ {
		a := made(t, 2, 140, places(1, sector)...)
		fine(t, a.Mark([]api.Addr{at(0, sector)}))
		takes(t, a, picked(2, 1), 1, at(0, sector+1))
	}
}

// All places of a ledger come, each device's from the least one on, and the devices take turns.
func TestP17_2_AllThatThereAre(t *testing.T) {
	for _, size := range [][2]int{{2, 8}, {8, 8}, {3, 200}, {2, 4096}, {8, 4096}} {
		devs, sectors := size[0], size[1]
		a := made(t, devs, sectors)
		for sector := 5; sector < sectors; sector++ {
			for dev := range devs {
				takes(t, a, all(devs), 1, at(dev, sector))
			}
		}
		noTake(t, a, all(devs), 1, api.ErrNoSpace)
		has(t, "all", a, devs, sectors, places(devs, sectors)...)
	}
}

func TestP17_2_Room(t *testing.T) {
	for _, x := range []struct {
		devs, sectors int
		used          string
		bits, copies  int
		want          int
	}{
		{2, 8, "", 3, 1, 6},
		{2, 8, "", 3, 2, 3},
		{2, 8, "", 3, 3, 3},
		{2, 8, "", 1, 3, 3},
		{2, 8, "", 0, 1, 0},
		{2, 8, "0.5", 3, 2, 2},
		{2, 8, "0.5", 3, 1, 5},
		{2, 8, "0.5", 2, 2, 3},
		{2, 8, "0.5 0.6 0.7", 3, 2, 0},
		{2, 8, "0.5 0.6 0.7", 3, 1, 3},
		{3, 8, "", 7, 2, 4}, // one place is left over
		{3, 8, "", 7, 3, 3},
		{3, 8, "0.5 0.6 0.7 1.5 1.6", 7, 2, 1},
		{8, 4096, "", 255, 1, 8 * 4091},
		{8, 4096, "", 255, 2, 4 * 4091},
		{8, 4096, "", 255, 3, 8 * 4091 / 3},
		{2, 4096, "1.4095", 3, 2, 4090},
	} {
		a := made(t, x.devs, x.sectors, list(x.used)...)
		room(t, a, picked(x.devs, x.bits), x.copies, x.want)
		room(t, a, picked(x.devs, x.bits), x.copies, x.want) // asking takes nothing
		has(t, "behind Room", a, x.devs, x.sectors, list(x.used)...)
	}
}
