package alloc_test

import (
	"math"
	"slices"
	"testing"

	"caulker/alloc"
	"caulker/api"
)

func TestP17_1_Bounds(t *testing.T) {
	for devs := 2; devs <= 8; devs++ {
		for _, sectors := range []int{8, 9, 10, 63, 64, 65, 68, 69, 70, 127, 128, 129, 4095, 4096} {
			has(t, "of none", made(t, devs, sectors), devs, sectors)
			edges := []api.Addr{at(0, 5), at(0, sectors-1), at(devs-1, 5), at(devs-1, sectors-1)}
			has(t, "of edges", made(t, devs, sectors, edges...), devs, sectors, edges...)
			whole := places(devs, sectors)
			has(t, "of all", made(t, devs, sectors, whole...), devs, sectors, whole...)
		}
	}
}

func TestP17_1_OutOfBounds(t *testing.T) {
	devs := []int{1, 0, -1, -2, -8, 9, 10, 16, 256 + 2, 65536 + 2, 1<<32 + 2, math.MinInt, math.MinInt + 2, math.MaxInt}
	sectors := []int{7, 6, 5, 4, 1, 0, -1, -8, 4097, 4098, 8192, 65536 + 8, 1<<32 + 8, math.MinInt, math.MinInt + 8, math.MaxInt}
	refused := func(d, s int) {
		for _, used := range [][]api.Addr{nil, {}, list("0.5"), list("0.4")} {
			if a, e := alloc.New(d, s, used); a != nil || e != api.ErrArg {
				t.Errorf("New(%d, %d, %v): %v, %v", d, s, used, a, e)
			}
		}
	}
	for _, d := range devs {
		for _, s := range append(sectors, 8, 60, 4096) {
			refused(d, s)
		}
	}
	for _, s := range sectors {
		for _, d := range []int{2, 3, 8} {
			refused(d, s)
		}
	}
}

func TestP17_1_UsedThatIsNoPlace(t *testing.T) {
	for _, size := range [][2]int{{2, 8}, {3, 9}, {8, 4096}} {
		devs, sectors := size[0], size[1]
		for _, x := range nowhere(devs, sectors) {
			fit := []api.Addr{at(0, 5), at(1, 6), at(0, 7)}
			for i := range 4 { // ahead of those that are places, in their midst, behind them
				used := slices.Insert(slices.Clone(fit), i, x)
				if a, e := alloc.New(devs, sectors, used); a != nil || e != api.ErrArg {
					t.Errorf("New(%d, %d, %v): %v, %v", devs, sectors, used, a, e)
				}
			}
			if a, e := alloc.New(devs, sectors, []api.Addr{x}); a != nil || e != api.ErrArg {
				t.Errorf("New(%d, %d, %v): %v, %v", devs, sectors, x, a, e)
			}
		}
	}
}

func TestP17_1_UsedInAnyOrderAndTwice(t *testing.T) {
	for _, x := range []struct{ used, want string }{
		{"", ""},
		{"0.5", "0.5"},
		{"0.5 0.5", "0.5"},
		{"1.7 1.7 1.7 1.7", "1.7"},
		{"1.6 0.7 1.6 0.5 0.7", "0.5 0.7 1.6"},
		{"1.7 1.6 1.5 0.7 0.6 0.5", "0.5 0.6 0.7 1.5 1.6 1.7"},
		{"0.5 0.6 0.7 0.7 0.6 0.5", "0.5 0.6 0.7"},
	} {
		has(t, x.used, made(t, 2, 8, list(x.used)...), 2, 8, list(x.want)...)
	}
	whole := places(8, 300)
	has(t, "all twice", made(t, 8, 300, append(whole, whole...)...), 8, 300, whole...)
}

// Each place by itself: the bits of no two of them are the same.
func TestP17_1_EachPlaceAlone(t *testing.T) {
	for _, x := range places(3, 140) {
		has(t, "alone", made(t, 3, 140, x), 3, 140, x)
	}
	for _, sector := range []int{5, 63, 64, 2047, 2048, 4031, 4032, 4095} {
		for _, dev := range []int{0, 6, 7} {
			has(t, "alone", made(t, 8, 4096, at(dev, sector)), 8, 4096, at(dev, sector))
		}
	}
}

func TestP17_1_TwoLedgersAreApart(t *testing.T) {
	a, b := made(t, 2, 8, list("0.5")...), made(t, 2, 8, list("0.5")...)
	takes(t, a, all(2), 2, list("1.5 0.6")...)
	fine(t, a.Release(list("0.5")), a.Mark(list("1.7")))
	has(t, "the other", b, 2, 8, list("0.5")...)
	fine(t, b.Mark(list("0.6 0.7")))
	has(t, "the one", a, 2, 8, list("0.6 1.5 1.7")...)
	takes(t, b, all(2), 1, list("1.5")...)
	takes(t, a, all(2), 1, list("0.5")...)
}

// What New did not make answers ErrNil, whatever else is wrong, and noughts: so does a copy.
func TestP17_1_NotMade(t *testing.T) {
	a := made(t, 2, 8, list("0.5")...)
	copied := *a
	for i, x := range []*alloc.Alloc{nil, {}, new(alloc.Alloc), &copied} {
		for _, there := range [][]bool{nil, {}, {true}, all(2), make([]bool, 2), all(9)} {
			for _, copies := range []int{-1, 0, 1, 2, 3, 4} {
				noTake(t, x, there, copies, api.ErrNil)
			}
		}
		for _, l := range [][]api.Addr{nil, {}, list("0.5"), list("0.6"), list("0.6 0.6"), list("0.4"), list("-1.5"), list("8.4096")} {
			errs(t, api.ErrNil, x.Mark(l), x.Release(l))
		}
		for _, y := range append(nowhere(2, 8), places(2, 8)...) {
			if x.Has(y) {
				t.Errorf("%d: Has(%v)", i, y)
			}
		}
		if len(x.Free()) != 0 || len(x.Used()) != 0 {
			t.Errorf("%d: free %v, used %v", i, x.Free(), x.Used())
		}
	}
	has(t, "the one that is copied", a, 2, 8, list("0.5")...)
	takes(t, a, all(2), 2, list("1.5 0.6")...)
}
