package addr_test

import (
	"math"
	"slices"
	"testing"

	"caulker/addr"
	"caulker/api"
)

// at is the address Dev.At.
func at(dev, sector int) api.Addr { return api.Addr{Dev: dev, At: sector} }

// edges are numbers about which a limit stands, and those at the ends of all.
func edges() []int {
	return []int{math.MinInt, math.MinInt + 1, -2, -1, 0, 1, 2, 3, 4, 5, 6, 7, 8, 9, 100, 4094, 4095, 4096, 4097, math.MaxInt - 1, math.MaxInt}
}

func TestP3_1_MayExamples(t *testing.T) {
	for _, x := range []struct {
		a             api.Addr
		devs, sectors int
		want          bool
	}{
		{at(1, 5), 2, 8, true},
		{at(1, 4), 2, 8, false},
		{at(2, 5), 2, 8, false},
		{at(0, 8), 2, 8, false},
	} {
		if got := addr.May(x.a, x.devs, x.sectors); got != x.want {
			t.Errorf("%v of %d devices of %d: %v", x.a, x.devs, x.sectors, got)
		}
	}
}

func TestP3_1_MayAtTheEdges(t *testing.T) {
	for _, x := range []struct {
		what          string
		a             api.Addr
		devs, sectors int
		want          bool
	}{
		{"Dev -1", at(-1, 5), 8, 8, false},
		{"Dev 0", at(0, 5), 8, 8, true},
		{"Dev devs - 1, 8 devices", at(7, 5), 8, 8, true},
		{"Dev devs, 8 devices", at(8, 5), 8, 8, false},
		{"Dev devs - 1, 2 devices", at(1, 5), 2, 8, true},
		{"Dev devs, 2 devices", at(2, 5), 2, 8, false},
		{"devs 1", at(0, 5), 1, 8, false},
		{"devs 2", at(0, 5), 2, 8, true},
		{"devs 8", at(0, 5), 8, 8, true},
		{"devs 9", at(0, 5), 9, 8, false},
		{"devs 0", at(0, 5), 0, 8, false},
		{"devs -2", at(0, 5), -2, 8, false},
		{"sectors 7", at(0, 5), 2, 7, false},
		{"sectors 8", at(0, 5), 2, 8, true},
		{"sectors 4096", at(0, 5), 2, 4096, true},
		{"sectors 4097", at(0, 5), 2, 4097, false},
		{"sectors 0", at(0, 5), 2, 0, false},
		{"sectors -8", at(0, 5), 2, -8, false},
		{"At 4", at(0, 4), 2, 4096, false},
		{"At 5", at(0, 5), 2, 4096, true},
		{"At sectors - 1, of 4096", at(0, 4095), 2, 4096, true},
		{"At sectors, of 4096", at(0, 4096), 2, 4096, false},
		{"At sectors - 1, of 8", at(0, 7), 2, 8, true},
		{"At sectors, of 8", at(0, 8), 2, 8, false},
		{"At 0", at(0, 0), 2, 8, false},
		{"At -5", at(0, -5), 2, 8, false},
	} {
		if got := addr.May(x.a, x.devs, x.sectors); got != x.want {
			t.Errorf("%s: %v", x.what, got)
		}
	}
}

func TestP3_1_MayOfAll(t *testing.T) {
	all := edges()
	for _, devs := range all {
		for _, sectors := range all {
			right := devs >= 2 && devs <= 8 && sectors >= 8 && sectors <= 4096
			for _, dev := range all {
				for _, sector := range all {
					want := right && dev >= 0 && dev < devs && sector >= 5 && sector < sectors
					if got := addr.May(at(dev, sector), devs, sectors); got != want {
						t.Fatalf("%d.%d of %d devices of %d: %v", dev, sector, devs, sectors, got)
					}
				}
			}
		}
	}
}

func TestP3_1_LessExamples(t *testing.T) {
	for _, x := range []struct {
		a, b api.Addr
		want bool
	}{
		{at(0, 9), at(1, 5), true}, // the device is ahead of the sector
		{at(1, 5), at(0, 9), false},
		{at(1, 5), at(1, 5), false},
		{at(1, 5), at(1, 6), true},
		{at(1, 6), at(1, 5), false},
		{at(0, 5), at(1, 5), true},
		{at(-1, 9), at(0, 5), true},
		{at(0, -1), at(0, 0), true},
		{at(math.MinInt, 0), at(math.MaxInt, 0), true},
		{at(math.MaxInt, 0), at(math.MinInt, 0), false},
		{at(0, math.MinInt), at(0, math.MaxInt), true},
		{at(0, math.MaxInt), at(0, math.MinInt), false},
	} {
		if got := addr.Less(x.a, x.b); got != x.want {
			t.Errorf("%v ahead of %v: %v", x.a, x.b, got)
		}
	}
}

func TestP3_1_LessOfAll(t *testing.T) {
	for _, a := range places(edges()) {
		for _, b := range places(edges()) {
			want := a.Dev < b.Dev
			if a.Dev == b.Dev {
				want = a.At < b.At
			}
			if got := addr.Less(a, b); got != want {
				t.Fatalf("%v ahead of %v: %v", a, b, got)
			}
		}
	}
}

// places are the addresses of all pairs of numbers.
func places(numbers []int) []api.Addr {
	var l []api.Addr
	for _, dev := range numbers {
		for _, sector := range numbers {
			l = append(l, at(dev, sector))
		}
	}
	return l
}

func TestP3_1_Apart(t *testing.T) {
	for _, x := range []struct {
		l    []api.Addr
		want bool
	}{
		{nil, true},
		{[]api.Addr{}, true},
		{[]api.Addr{at(0, 5)}, true},
		{[]api.Addr{at(0, 5), at(1, 5)}, true},
		{[]api.Addr{at(1, 5), at(0, 5)}, true},
		{[]api.Addr{at(0, 5), at(0, 6)}, false},
		{[]api.Addr{at(0, 5), at(0, 5)}, false}, // one address twice: two of the list, on one device
		{[]api.Addr{at(0, 5), at(1, 5), at(2, 5)}, true},
		{[]api.Addr{at(0, 5), at(1, 5), at(0, 6)}, false},
		{[]api.Addr{at(2, 5), at(1, 5), at(1, 6)}, false},
		{[]api.Addr{at(1, 9), at(1, 6), at(0, 5)}, false},
		{[]api.Addr{at(-1, 0), at(math.MinInt, 0), at(math.MaxInt, 0), at(9, -1)}, true},
		{[]api.Addr{at(-1, 0), at(0, 0), at(-1, 9)}, false},
		{[]api.Addr{at(math.MaxInt, 0), at(3, 0), at(math.MaxInt, 1)}, false},
	} {
		was := slices.Clone(x.l)
		if got := addr.Apart(x.l); got != x.want || !slices.Equal(x.l, was) {
			t.Errorf("%v: %v, and the list is %v", was, got, x.l)
		}
	}
}

func TestP3_1_ApartOfAny(t *testing.T) {
	d := dice(1)
	for range 3000 {
		l := d.list()
		want := true
		for i, a := range l {
			for _, b := range l[:i] {
				want = want && a.Dev != b.Dev
			}
		}
		if got := addr.Apart(l); got != want {
			t.Fatalf("%v: %v", l, got)
		}
	}
}
