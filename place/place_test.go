package place_test

import (
	"slices"
	"testing"

	"caulker/api"
	"caulker/place"
)

func TestP7_1_Examples(t *testing.T) {
	if e := place.Check([]int{3}, all(1), 1); e != api.ErrArg {
		t.Error(e)
	}
	if e := place.Check([]int{3, 5}, all(2), 4); e != api.ErrArg {
		t.Error(e)
	}
}

// checks demands that Check answers this.
func checks(t *testing.T, a ask, wanted api.Errno) {
	t.Helper()
	if e := place.Check(a.free, a.there, a.copies); e != wanted {
		t.Fatalf("Check(%s): %v; want %v", a.text(), e, wanted)
	}
}

func TestP7_1_WhatMayBe(t *testing.T) {
	for _, a := range edges() {
		checks(t, a, api.OK)
	}
	d := dice(1)
	for range 5000 {
		checks(t, d.ask(), api.OK)
	}
}

func TestP7_1_WhatMayNotBe(t *testing.T) {
	for _, a := range wrong() {
		checks(t, a, api.ErrArg)
	}
}

func TestP7_1_HowManyDevicesAndCopies(t *testing.T) {
	for devs := range 12 {
		for are := range 12 {
			for copies := -2; copies < 7; copies++ {
				want := api.ErrArg
				if devs >= 2 && devs <= 8 && are == devs && copies >= 1 && copies <= 3 {
					want = api.OK
				}
				checks(t, ask{slices.Repeat([]int{4096}, devs), all(are), copies}, want)
				checks(t, ask{make([]int, devs), make([]bool, are), copies}, want)
			}
		}
	}
}

func TestP7_1_EachRoomOfEachDevice(t *testing.T) {
	for n := 2; n <= 8; n++ {
		for dev := range n {
			for room := -3; room <= 4100; room++ {
				a := ask{slices.Repeat([]int{2}, n), all(n), 1}
				a.free[dev] = room
				want := api.ErrArg
				if room >= 0 && room <= 4096 {
					want = api.OK
				}
				checks(t, a, want)
			}
		}
	}
}

func TestP7_2_Examples(t *testing.T) {
	for _, x := range []struct {
		ask
		want []int
		e    api.Errno
	}{
		{ask{[]int{3, 5, 5}, all(3), 2}, []int{1, 2}, api.OK},
		{ask{[]int{3, 5, 5}, all(3), 3}, []int{1, 2, 0}, api.OK},
		{ask{[]int{0, 5, 5}, all(3), 3}, nil, api.ErrNoSpace},
		{ask{[]int{3, 5, 5}, []bool{true, true, false}, 3}, []int{1, 0}, api.OK},
		{ask{[]int{3, 0, 5}, []bool{true, true, false}, 2}, nil, api.ErrNoSpace},
		{ask{[]int{3, 5}, []bool{false, false}, 1}, nil, api.ErrNoSpace},
	} {
		chooses(t, x.ask, x.want, x.e)
	}
}

func TestP7_2_FewerAreLaidWhereDevicesAreMissing(t *testing.T) {
	few := []bool{false, true, false, false, true, false, false, false}
	for _, x := range []struct {
		ask
		want []int
		e    api.Errno
	}{
		{ask{[]int{9, 9, 9, 9, 9, 9, 9, 9}, make([]bool, 8), 3}, nil, api.ErrNoSpace},                                 // none there
		{ask{[]int{9, 1, 9, 9, 2, 9, 9, 9}, few, 3}, []int{4, 1}, api.OK},                                             // fewer there than copies
		{ask{[]int{9, 1, 9, 9, 2, 9, 9, 9}, few, 2}, []int{4, 1}, api.OK},                                             // just as many
		{ask{[]int{9, 1, 9, 9, 2, 9, 9, 9}, few, 1}, []int{4}, api.OK},                                                // more
		{ask{[]int{9, 0, 9, 9, 2, 9, 9, 9}, few, 3}, nil, api.ErrNoSpace},                                             // one of them has no room
		{ask{[]int{9, 0, 9, 9, 2, 9, 9, 9}, few, 2}, nil, api.ErrNoSpace},                                             // likewise
		{ask{[]int{9, 0, 9, 9, 2, 9, 9, 9}, few, 1}, []int{4}, api.OK},                                                // one is enough
		{ask{[]int{9, 0, 9, 9, 0, 9, 9, 9}, few, 1}, nil, api.ErrNoSpace},                                             // none of them has room
		{ask{[]int{0, 0, 4096, 0, 0, 0, 0, 0}, picked(8, 4), 3}, []int{2}, api.OK},                                    // one there
		{ask{[]int{4096, 4096, 0, 4096, 4096, 4096, 4096, 4096}, picked(8, 4), 1}, nil, api.ErrNoSpace},               // one there, without room
		{ask{[]int{1, 0, 0, 0, 0, 0, 0, 1}, all(8), 2}, []int{0, 7}, api.OK},                                          // just as many have room
		{ask{[]int{1, 0, 0, 0, 0, 0, 0, 1}, all(8), 3}, nil, api.ErrNoSpace},                                          // fewer have room
		{ask{[]int{1, 4096, 0, 0, 0, 0, 0, 1}, append([]bool{true, false}, all(6)...), 3}, nil, api.ErrNoSpace},       // the third with room is missing
		{ask{[]int{4095, 4096, 4094, 0, 0, 0, 0, 0}, append([]bool{true, false}, all(6)...), 2}, []int{0, 2}, api.OK}, // the greatest one is missing
	} {
		chooses(t, x.ask, x.want, x.e)
	}
}

func TestP7_2_OfAsMuchRoomTheLowerNumberIsAhead(t *testing.T) {
	for _, x := range []struct {
		free []int
		want []int
	}{
		{[]int{5, 5}, []int{0, 1}},
		{[]int{5, 5, 5}, []int{0, 1, 2}},
		{[]int{1, 1, 1, 1, 1, 1, 1, 1}, []int{0, 1, 2}},
		{[]int{4096, 4096, 4096, 4096, 4096, 4096, 4096, 4096}, []int{0, 1, 2}},
		{[]int{5, 7, 5, 7}, []int{1, 3, 0}},
		{[]int{7, 5, 7, 5}, []int{0, 2, 1}},
		{[]int{1, 1, 1, 1, 1, 1, 2, 2}, []int{6, 7, 0}},
		{[]int{1, 2, 3, 3, 3, 3, 2, 1}, []int{2, 3, 4}},
		{[]int{0, 4, 0, 4, 9, 4, 0, 4}, []int{4, 1, 3}},
		{[]int{4, 9, 4, 9, 4, 9, 4, 9}, []int{1, 3, 5}},
	} {
		for copies := 1; copies <= 3; copies++ {
			chooses(t, ask{x.free, all(len(x.free)), copies}, x.want[:min(copies, len(x.want))], api.OK)
		}
	}
}

// choosesRight demands what chosen finds.
func choosesRight(t *testing.T, a ask) {
	t.Helper()
	want, ok := chosen(a)
	if ok {
		chooses(t, a, want, api.OK)
	} else {
		chooses(t, a, nil, api.ErrNoSpace)
	}
}

func TestP7_2_AllOfFewDevices(t *testing.T) {
	small([]int{0, 1, 2, 4095, 4096}, func(a ask) { choosesRight(t, a) })
}

func TestP7_2_AllOrdersOfEightAndWhoIsThere(t *testing.T) {
	for _, free := range [][]int{{4, 4, 3, 3, 2, 2, 1, 0}, {1, 2, 3, 4, 5, 6, 7, 8}, {0, 0, 0, 7, 7, 7, 7, 0}} {
		d := dice(2)
		for bits := range 256 {
			for range 40 {
				for i := range 7 { // as chance shuffles
					j := i + d.below(8-i)
					free[i], free[j] = free[j], free[i]
				}
				choosesRight(t, ask{free, picked(8, bits), 1 + d.below(3)})
			}
		}
	}
}

func TestP7_2_EdgesAndAny(t *testing.T) {
	for _, a := range edges() {
		choosesRight(t, a)
	}
	d := dice(3)
	for range 50000 {
		choosesRight(t, d.ask())
	}
}

func TestP7_2_ChecksErrorIsAhead(t *testing.T) {
	for _, a := range wrong() {
		chooses(t, a, nil, api.ErrArg)
	}
}

func TestP7_3_Examples(t *testing.T) {
	counts(t, ask{[]int{3, 5, 5}, all(3), 2}, 6, api.OK)
	counts(t, ask{[]int{1, 1}, all(2), 2}, 1, api.OK)
}

func TestP7_3_HowOftenTillADeviceRunsDry(t *testing.T) {
	for _, x := range []struct {
		ask
		want int
	}{
		{ask{[]int{9, 1}, all(2), 2}, 1},                                                     // the lesser one is dry, the greater one is of no use
		{ask{[]int{9, 1}, all(2), 3}, 1},                                                     // likewise: as many as are there
		{ask{[]int{9, 2, 1}, all(3), 2}, 3},                                                  // two take turns beside one
		{ask{[]int{4, 4, 1}, all(3), 2}, 4},                                                  // one is dry in the midst
		{ask{[]int{2, 2, 2}, all(3), 2}, 3},                                                  // all of it
		{ask{[]int{1, 1, 1}, all(3), 2}, 1},                                                  // one is left over
		{ask{[]int{1, 1, 1, 1, 1}, all(5), 3}, 1},                                            // two are left over
		{ask{[]int{5, 9}, all(2), 1}, 14},                                                    // one copy: all of it
		{ask{[]int{1, 0}, all(2), 1}, 1},                                                     // the last one
		{ask{[]int{0, 0}, all(2), 1}, 0},                                                     // full at first
		{ask{[]int{0, 0, 0, 0, 0, 0, 0, 0}, all(8), 3}, 0},                                   // full at first
		{ask{[]int{7, 0}, all(2), 2}, 0},                                                     // full at first, but for one
		{ask{[]int{7, 7, 7}, make([]bool, 3), 1}, 0},                                         // none there
		{ask{[]int{7, 8, 9}, picked(3, 2), 3}, 8},                                            // one there
		{ask{[]int{7, 8, 9}, picked(3, 3), 3}, 7},                                            // two there
		{ask{[]int{7, 8, 9}, picked(3, 5), 1}, 16},                                           // two there, one copy
		{ask{[]int{0, 8, 9}, picked(3, 5), 2}, 0},                                            // one there has none
		{ask{slices.Repeat([]int{4096}, 8), all(8), 1}, 32768},                               // the most
		{ask{slices.Repeat([]int{4096}, 8), all(8), 2}, 16384},                               // of two copies
		{ask{slices.Repeat([]int{4096}, 8), all(8), 3}, 10922},                               // two sectors are left over
		{ask{[]int{4096, 1, 1, 1, 1, 1, 1, 1}, all(8), 2}, 7},                                // a great one beside small ones
		{ask{[]int{4096, 4096, 1, 1, 1, 1, 1, 1}, all(8), 3}, 6},                             // two great ones
		{ask{[]int{4096, 4096}, all(2), 2}, 4096}, {ask{[]int{4096, 4095}, all(2), 2}, 4095}, // level
	} {
		counts(t, x.ask, x.want, api.OK)
	}
}

func TestP7_3_AllOfFewDevices(t *testing.T) {
	small([]int{0, 1, 2, 3, 7}, func(a ask) { counts(t, a, many(a), api.OK) })
}

func TestP7_3_EdgesAndAny(t *testing.T) {
	for _, a := range edges() {
		counts(t, a, many(a), api.OK)
	}
	d := dice(4)
	for range 1000 {
		a := d.ask()
		counts(t, a, many(a), api.OK)
	}
}

func TestP7_3_ChecksErrorIsAhead(t *testing.T) {
	for _, a := range wrong() {
		counts(t, a, 0, api.ErrArg)
	}
}
