package ring_test

import (
	"bytes"
	"slices"
	"strconv"
	"testing"

	"caulker/api"
	"caulker/ring"
)

func TestP10_3_Examples(t *testing.T) {
	u, v := api.Uber{Txg: 5}, api.Uber{Txg: 6}
	bests(t, "u v u", []api.Uber{u, v, u}, []api.Uber{v, u})
}

func TestP10_3_None(t *testing.T) {
	bests(t, "nil", nil, nil)
	bests(t, "empty", []api.Uber{}, nil)
	bests(t, "none that may be", wrong(), nil)
	for _, u := range wrong() {
		bests(t, text(u), []api.Uber{u}, nil)
		bests(t, text(u), []api.Uber{u, u, u}, nil)
	}
}

func TestP10_3_One(t *testing.T) {
	d := dice(2)
	all := []api.Uber{{Txg: 1}, {Txg: 1 << 31}, {Txg: 1, Len: 16384}, full(1), full(1 << 31)}
	for range 200 {
		all = append(all, d.uber())
	}
	for _, u := range all {
		for _, n := range []int{1, 2, 3, 17} {
			bests(t, strconv.Itoa(n)+" times", slices.Repeat([]api.Uber{u}, n), []api.Uber{u})
		}
	}
}

func TestP10_3_TheSameOverAndOver(t *testing.T) {
	u, v, w := full(5), full(6), full(7)
	bests(t, "very often", slices.Repeat([]api.Uber{u, v, w, v}, 500), []api.Uber{w, v, u})
	bests(t, "one behind the other", slices.Concat(slices.Repeat([]api.Uber{u}, 50), slices.Repeat([]api.Uber{w}, 50), slices.Repeat([]api.Uber{u}, 50)), []api.Uber{w, u})
}

func TestP10_3_ByFallingTxg(t *testing.T) {
	edge := []int{1 << 31, 1<<31 - 1, 1<<24 + 1, 1 << 24, 65536, 65535, 257, 256, 255, 128, 127, 10, 9, 2, 1}
	var want []api.Uber
	for i, txg := range edge {
		want = append(want, api.Uber{Txg: txg, Len: 7 * i, Pool: api.ID{0: byte(50 * i)}}) // by their sectors they would stand otherwise
	}
	d := dice(3)
	l := copied(want)
	for range 300 {
		shuffle(&d, l)
		bests(t, "shuffled", l, want)
		n := d.below(len(l))
		bests(t, "some of them", l[:n], best(l[:n]))
	}
	slices.Reverse(want)
	bests(t, "rising", want, best(want))
	slices.Reverse(want)
	bests(t, "falling", want, want)
}

// alike are uberblocks of one Txg in the order of their sectors' bytes, told one by one.
func alike() []api.Uber {
	root := api.Pointer{Addrs: []api.Addr{at(1, 256), at(2, 5)}, Birth: 256, Level: 3, Sum: api.ID{9: 9}}
	with := func(do func(p *api.Pointer)) api.Uber {
		u := api.Uber{Txg: 300, Len: 256, Root: root}
		u.Root.Addrs = slices.Clone(root.Addrs)
		do(&u.Root)
		return u
	}
	return []api.Uber{
		{Txg: 300},
		{Txg: 300, Len: 1},
		{Txg: 300, Len: 255},
		{Txg: 300, Len: 256},
		with(func(p *api.Pointer) { p.Addrs = p.Addrs[1:] }), // fewer addresses first
		with(func(p *api.Pointer) { p.Addrs[0] = at(0, 4095) }),
		with(func(p *api.Pointer) { p.Addrs[0].At = 255 }),
		with(func(p *api.Pointer) { p.Addrs[1].At = 4 + 1; p.Birth = 255 }),
		with(func(p *api.Pointer) { p.Sum = api.ID{} }),
		with(func(p *api.Pointer) { p.Sum = api.ID{31: 255} }),
		with(func(p *api.Pointer) { p.Sum = api.ID{9: 8} }),
		with(func(p *api.Pointer) {}),
		with(func(p *api.Pointer) { p.Sum = api.ID{0: 128} }),
		with(func(p *api.Pointer) { p.Birth = 257 }),
		with(func(p *api.Pointer) { p.Addrs[1].At = 6 }),
		with(func(p *api.Pointer) { p.Addrs[0].At = 257 }),
		with(func(p *api.Pointer) { slices.Reverse(p.Addrs) }),
		with(func(p *api.Pointer) { p.Addrs = append(p.Addrs, at(0, 5)) }),
		{Txg: 300, Len: 257},
		{Txg: 300, Len: 16384},
		{Txg: 300, Pool: api.ID{31: 1}},
		{Txg: 300, Pool: api.ID{31: 255}},
		{Txg: 300, Pool: api.ID{0: 1}},
		{Txg: 300, Pool: api.ID{0: 1, 31: 1}},
		{Txg: 300, Pool: api.ID{0: 127, 1: 255}},
		{Txg: 300, Pool: api.ID{0: 128}},
		{Txg: 300, Pool: api.ID{0: 255}},
	}
}

func TestP10_3_OfOneTxgByTheirSectors(t *testing.T) {
	want := alike()
	for i := range want[1:] {
		if bytes.Compare(sector(want[i]), sector(want[i+1])) >= 0 {
			t.Fatalf("%s is not ahead of %s", text(want[i]), text(want[i+1]))
		}
		for _, l := range [][]api.Uber{{want[i], want[i+1]}, {want[i+1], want[i]}, {want[i+1], want[i], want[i+1]}} {
			bests(t, "two of them", l, want[i:i+2])
		}
	}
	d := dice(4)
	l := copied(want)
	for range 300 {
		shuffle(&d, l)
		bests(t, "shuffled", l, want)
		bests(t, "twice", slices.Concat(l, l), want)
	}
	older, newer := api.Uber{Txg: 299}, api.Uber{Txg: 301, Len: 16384, Pool: api.ID{0: 255}}
	bests(t, "with an older and a newer one", slices.Concat([]api.Uber{older}, l, []api.Uber{newer}), slices.Concat([]api.Uber{newer}, want, []api.Uber{older}))
}

func TestP10_3_AllOrdersOfAFew(t *testing.T) {
	few := []api.Uber{{Txg: 6, Len: 2}, {Txg: 6}, {Txg: 5, Pool: api.ID{1}}, {Txg: 7, Len: 1}, {Txg: 0}, {Txg: 5, Len: -1}}
	for n := 1; n <= 5; n++ {
		count := 1
		for range n {
			count *= len(few)
		}
		for pick := range count { // each list of so many of them
			var l []api.Uber
			for rest := pick; len(l) < n; rest /= len(few) {
				l = append(l, few[rest%len(few)])
			}
			bests(t, "list "+strconv.Itoa(pick), l, best(l))
		}
	}
}

func TestP10_3_SomeThatMayNotBe(t *testing.T) {
	d := dice(5)
	for range 200 {
		want := []api.Uber{full(9), full(6), full(5)}
		l := slices.Concat(want, wrong(), want, wrong())
		shuffle(&d, l)
		bests(t, "with such as may not be", l, want)
	}
}

func TestP10_3_Many(t *testing.T) {
	d := dice(6)
	for range 60 {
		var l []api.Uber
		for range d.below(50) {
			u := d.uber()
			switch d.below(6) {
			case 0:
				u = wrong()[d.below(len(wrong()))]
			case 1:
				u = alike()[d.below(len(alike()))]
			case 2:
				u = api.Uber{Txg: 1 + d.below(3), Len: d.below(3)}
			}
			for range 1 + d.below(3) {
				l = append(l, u)
			}
		}
		shuffle(&d, l)
		bests(t, "many", l, best(l))
	}
}

func TestP10_3_AHoleIsAHole(t *testing.T) {
	plain, empty, spare := api.Uber{Txg: 5}, api.Uber{Txg: 5}, api.Uber{Txg: 5}
	empty.Root.Addrs = []api.Addr{}
	spare.Root.Addrs = []api.Addr{at(1, 9), at(1, 9)}[:0]
	for _, l := range [][]api.Uber{{plain, empty, spare}, {empty, spare, plain}, {spare, plain, empty}} {
		bests(t, "a hole", l, []api.Uber{plain})
		for _, u := range ring.Best(l) {
			if cap(u.Root.Addrs) != 0 {
				t.Error("a hole with room behind it")
			}
		}
	}
}

func TestP10_3_LeavesTheListAsItWas(t *testing.T) {
	for n := range 11 {
		l := []api.Uber{full(5), full(6), full(6), full(5), {}, {}, full(8), full(3), full(8), {Txg: 9}}
		for i := range l {
			l[i].Root.Addrs = append(l[i].Root.Addrs, at(7, 77), at(5, 55))
			l[i].Root.Addrs = l[i].Root.Addrs[:len(l[i].Root.Addrs)-2]
		}
		was := copied(l)
		ring.Best(l[:n])
		if !same(l, was) {
			t.Fatalf("%d of them, or the room behind them, are others", n)
		}
		for _, u := range l {
			n := len(u.Root.Addrs)
			if !slices.Equal(u.Root.Addrs[n:n+2], []api.Addr{at(7, 77), at(5, 55)}) {
				t.Fatal("the room behind addresses is another one")
			}
		}
	}
}

func TestP10_3_SpareRoomDoesNotCount(t *testing.T) {
	l := []api.Uber{full(5), full(6), full(7)}
	for n := range 4 {
		want := copied(l[:n])
		slices.Reverse(want)
		bests(t, strconv.Itoa(n)+" and room", l[:n], want)
	}
	u, v := full(5), full(5)
	u.Root.Addrs, v.Root.Addrs = u.Root.Addrs[:2], v.Root.Addrs[:2]
	v.Root.Addrs[:3][2] = at(-1, -1)
	bests(t, "unlike room", []api.Uber{u, v}, []api.Uber{u})
}

func TestP10_3_SharesNoMemory(t *testing.T) {
	l := []api.Uber{full(5), full(6), full(7), full(7)}
	l[1].Root.Addrs = l[0].Root.Addrs // two that share some, as they come in
	want := []api.Uber{full(7), full(6), full(5)}
	got := ring.Best(l)
	again := ring.Best(l)
	for _, u := range l {
		clear(u.Root.Addrs)
	}
	clear(l)
	if !same(got, want) {
		t.Error("it hangs on what was handed in: ", texts(got))
	}
	for i := range got {
		addrs := got[i].Root.Addrs
		clear(addrs[:cap(addrs)])
		if !same(got[i+1:], want[i+1:]) {
			t.Error("two of one answer share memory: ", texts(got))
		}
	}
	clear(got[:cap(got)])
	if !same(again, want) {
		t.Error("two answers share memory: ", texts(again))
	}
	for n := range 4 {
		blankRoom(t, ring.Best(slices.Repeat(want[:n], 3)))
	}
}

func TestP10_3_TheSameAnswersAgain(t *testing.T) {
	for range 3 {
		bests(t, "some", []api.Uber{full(5), full(6)}, []api.Uber{full(6), full(5)})
		bests(t, "none", nil, nil)
		bests(t, "others", []api.Uber{full(4), {}}, []api.Uber{full(4)})
	}
}
