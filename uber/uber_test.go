package uber_test

import (
	"bytes"
	"math"
	"slices"
	"testing"

	"caulker/api"
	"caulker/uber"
)

func TestP9_1_Examples(t *testing.T) {
	u := example()
	b, e := uber.Pack(u)
	if e != api.OK || len(b) != 256 || string(b[:8]) != "CAULKER2" || !bytes.Equal(b[40:49], []byte{0, 0, 0, 1, 2, 0, 1, 44, 0}) {
		t.Errorf("Pack: %d bytes, %v", len(b), e)
	}
	early, long, low, none := u, u, u, u
	early.Txg, long.Len, low.Root.Level, none.Len = 0, 16385, 2, 0
	for _, x := range []api.Uber{early, long, low} {
		if e := uber.Check(x); e != api.ErrArg {
			t.Errorf("%s: %v", text(x), e)
		}
	}
	if !uber.Same(u, u) || uber.Same(u, none) {
		t.Error("Same")
	}
}

// checked holds Check, and Pack's bytes, of an uberblock.
func checked(t *testing.T, u api.Uber, may bool) {
	t.Helper()
	want, wanted := []byte(nil), api.ErrArg
	if may {
		want, wanted = encoded(u), api.OK
	}
	if e := uber.Check(u); e != wanted {
		t.Fatalf("Check(%s): %v; want %v", text(u), e, wanted)
	}
	if b, e := uber.Pack(u); !bytes.Equal(b, want) || e != wanted || !may && b != nil {
		t.Fatalf("Pack(%s): %d bytes, %v; want %d, %v", text(u), len(b), e, len(want), wanted)
	}
}

func TestP9_1_WhatMayBe(t *testing.T) {
	for _, u := range edges() {
		checked(t, u, true)
	}
	d := dice(1)
	for range 5000 {
		checked(t, d.uber(), true)
	}
}

func TestP9_1_WhatMayNotBe(t *testing.T) {
	for _, u := range wrong() {
		checked(t, u, false)
	}
}

func TestP9_1_TxgAtItsLimits(t *testing.T) {
	for _, root := range []api.Pointer{{}, {Addrs: []api.Addr{at(1, 9)}, Birth: 1, Level: 3}} {
		for txg, may := range map[int]bool{math.MinInt: false, -1: false, 0: false, 1: true, 2: true, 1<<31 - 1: true, 1 << 31: true, 1<<31 + 1: false, 1 << 40: false, math.MaxInt: false} {
			checked(t, api.Uber{Txg: txg, Root: root, Len: 5}, may)
		}
	}
}

func TestP9_1_LenOneByOne(t *testing.T) {
	for length := -300; length < 16700; length++ {
		u := changed(func(u *api.Uber) { u.Len = length })
		wanted := api.ErrArg
		if length >= 0 && length <= 16384 {
			wanted = api.OK
		}
		if e := uber.Check(u); e != wanted {
			t.Fatalf("%d: %v", length, e)
		}
	}
	for length, may := range map[int]bool{-1: false, 0: true, 16383: true, 16384: true, 16385: false} {
		checked(t, api.Uber{Txg: 1, Len: length}, may)
	}
}

func TestP9_1_RootOfEachLevel(t *testing.T) {
	for level := -3; level <= 9; level++ {
		checked(t, changed(func(u *api.Uber) { u.Root.Level = level }), level == 3)
	}
	for level := -3; level <= 9; level++ {
		checked(t, api.Uber{Txg: 7, Root: api.Pointer{Level: level}}, level == 0) // a hole's is 0
	}
}

func TestP9_1_RootIsBornWithItsCommitOrAhead(t *testing.T) {
	for _, txg := range []int{1, 2, 3, 256, 257, 65536, 1<<31 - 1, 1 << 31} {
		for more := -3; more <= 3; more++ {
			u := changed(func(u *api.Uber) { u.Txg, u.Root.Birth = txg, txg+more })
			checked(t, u, more <= 0 && txg+more >= 1)
		}
	}
}

func TestP9_1_RootThatIsAHole(t *testing.T) {
	for _, txg := range []int{1, 300, 1 << 31} {
		checked(t, api.Uber{Txg: txg, Root: api.Pointer{Addrs: []api.Addr{}}}, true)
		checked(t, api.Uber{Txg: txg, Root: api.Pointer{Addrs: make([]api.Addr, 0, 4)}}, true)
		for _, p := range []api.Pointer{{Birth: 1}, {Level: 3}, {Birth: 1, Level: 3}, {Sum: api.ID{0: 1}}, {Sum: api.ID{31: 1}}, {Addrs: []api.Addr{{}}}, {Addrs: make([]api.Addr, 2)}} {
			checked(t, api.Uber{Txg: txg, Root: p}, false)
		}
	}
}

func TestP9_1_AnyPoolAndAnySumMayBe(t *testing.T) {
	for i := range 32 {
		for _, x := range []byte{0, 1, 127, 128, 255} {
			u := full()
			u.Pool, u.Root.Sum = with(i, x), api.ID{}
			checked(t, u, true)
			unpacks(t, text(u), encoded(u))
			u.Pool, u.Root.Sum = api.ID{}, with(i, x)
			checked(t, u, true)
			unpacks(t, text(u), encoded(u))
		}
	}
}

func TestP9_1_PackByteByByte(t *testing.T) {
	u := api.Uber{Txg: 1 << 31, Len: 16384, Pool: api.ID{0: 9, 31: 8}}
	want := slices.Concat([]byte{67, 65, 85, 76, 75, 69, 82, 50, 9}, make([]byte, 30), []byte{8, 0, 128, 0, 0, 0, 0, 64, 0}, make([]byte, 176))
	if b, e := uber.Pack(u); e != api.OK || !bytes.Equal(b, sealed(want)) {
		t.Errorf("%v, %v", b, e)
	}
	u.Root = api.Pointer{Addrs: []api.Addr{at(7, 4095), at(2, 258)}, Birth: 1<<24 + 515, Level: 3, Sum: api.ID{0: 6, 31: 4}}
	root := slices.Concat([]byte{2, 7, 15, 255, 2, 1, 2, 0, 0, 0, 1, 0, 2, 3, 3, 6}, make([]byte, 30), []byte{4})
	copy(want[48:], root)
	if b, e := uber.Pack(u); e != api.OK || !bytes.Equal(b, sealed(want)) {
		t.Errorf("with a root: %v, %v", b, e)
	}
}

func TestP9_1_PackIsNewMemory(t *testing.T) {
	u := full()
	first, _ := uber.Pack(u)
	clear(first[:cap(first)])
	second, e := uber.Pack(u)
	if e != api.OK || !bytes.Equal(second, encoded(full())) {
		t.Error("a second one hangs on the first one")
	}
	third, _ := uber.Pack(u)
	_ = append(second, 1, 2, 3)
	clear(second[:cap(second)])
	if !bytes.Equal(third, encoded(full())) || !same(u, full()) {
		t.Error("a third one shares memory with the second one, or with what was handed in")
	}
	clear(u.Root.Addrs)
	if !bytes.Equal(third, encoded(full())) {
		t.Error("the third one hangs on what was handed in")
	}
}

func TestP9_1_LeavesWhatIsHandedIn(t *testing.T) {
	for _, base := range slices.Concat(wrong(), []api.Uber{example(), full(), least(), most()}) {
		room := append(slices.Clone(base.Root.Addrs), at(7, 77), at(6, 66), at(5, 55))
		was := slices.Clone(room)
		u := base
		u.Root.Addrs = room[:len(base.Root.Addrs)]
		v := u
		uber.Check(u)
		uber.Pack(u)
		uber.Same(u, v)
		if !slices.Equal(room, was) || !same(u, base) || !same(v, base) {
			t.Fatalf("%s: it, or the room behind its addresses, is another one", text(base))
		}
	}
}

func TestP9_1_SpareRoomDoesNotCount(t *testing.T) {
	for _, behind := range [][]api.Addr{{at(1, 4)}, {at(6, 258), at(6, 258)}, {at(5, 5), at(-1, -1), at(9, 9)}} {
		room := slices.Concat(full().Root.Addrs, behind)
		for n := range 4 {
			u := changed(func(u *api.Uber) { u.Root.Addrs = room[:n] })
			plain := changed(func(u *api.Uber) { u.Root.Addrs = u.Root.Addrs[:n:n] })
			checked(t, u, n > 0) // without addresses all else must be 0, and is not
			if !uber.Same(u, plain) || !uber.Same(plain, u) {
				t.Fatalf("%s: Same", text(u))
			}
		}
	}
}

// turns are changes of one field each, in each of its parts.
func turns() []func(u *api.Uber) {
	out := []func(u *api.Uber){
		func(u *api.Uber) { u.Root.Addrs = nil },
		func(u *api.Uber) { u.Root.Addrs = u.Root.Addrs[:1] },
		func(u *api.Uber) { u.Root.Addrs = u.Root.Addrs[:2] },
		func(u *api.Uber) { u.Root.Addrs = u.Root.Addrs[1:] },
		func(u *api.Uber) { u.Root.Addrs = append(u.Root.Addrs, at(0, 5)) },
		func(u *api.Uber) { slices.Reverse(u.Root.Addrs) },
	}
	for _, more := range []int{1, -1, 256, 1 << 31, 1 << 32, 1 << 40, -1 << 62, math.MinInt} {
		out = append(out,
			func(u *api.Uber) { u.Txg += more },
			func(u *api.Uber) { u.Len += more },
			func(u *api.Uber) { u.Root.Birth += more },
			func(u *api.Uber) { u.Root.Level += more })
		for i := range 3 {
			out = append(out,
				func(u *api.Uber) { u.Root.Addrs[i].Dev += more },
				func(u *api.Uber) { u.Root.Addrs[i].At += more })
		}
	}
	for i := range 256 {
		out = append(out,
			func(u *api.Uber) { u.Pool[i/8] ^= 1 << (i % 8) },
			func(u *api.Uber) { u.Root.Sum[i/8] ^= 1 << (i % 8) })
	}
	return out
}

// held demands what Same tells of two, whichever stands first.
func held(t *testing.T, a, b api.Uber, want bool) {
	t.Helper()
	if uber.Same(a, b) != want || uber.Same(b, a) != want {
		t.Fatalf("Same(%s, %s): want %t", text(a), text(b), want)
	}
}

func TestP9_1_UnlikeInOneFieldAlone(t *testing.T) {
	far := api.Uber{Txg: math.MaxInt, Len: math.MinInt, Root: api.Pointer{Addrs: []api.Addr{at(-1, 9999), at(math.MaxInt, 0), at(-1, math.MinInt)}, Birth: -5, Level: 77}}
	for _, base := range []api.Uber{full(), most(), far} { // the last one may not be
		held(t, base, copied(base), true)
		for _, turn := range turns() {
			u := copied(base)
			turn(&u)
			held(t, base, u, false)
			held(t, u, copied(u), true)
		}
	}
}

func TestP9_1_SameOfAny(t *testing.T) {
	held(t, api.Uber{}, api.Uber{}, true)
	held(t, api.Uber{}, api.Uber{Root: api.Pointer{Addrs: []api.Addr{}}}, true)
	held(t, api.Uber{}, example(), false)
	held(t, api.Uber{Txg: 1, Len: 2}, api.Uber{Txg: 2, Len: 1}, false)
	a, b := full(), full()
	a.Pool, a.Root.Sum = b.Root.Sum, b.Pool
	held(t, a, b, false)
	all := slices.Concat(wrong(), edges()[:60])
	for _, a := range all {
		for _, b := range all {
			if uber.Same(a, b) != same(a, b) {
				t.Fatalf("Same(%s, %s): %t", text(a), text(b), !same(a, b))
			}
		}
	}
}

func TestP9_1_TheSameAnswersAgain(t *testing.T) {
	far := changed(func(u *api.Uber) { u.Txg, u.Len = math.MaxInt, math.MinInt })
	for range 3 {
		checked(t, full(), true)
		checked(t, far, false)
		checked(t, example(), true)
		held(t, full(), full(), true)
		held(t, full(), far, false)
	}
}
