package pointer_test

import (
	"bytes"
	"slices"
	"testing"

	"caulker/api"
	"caulker/pointer"
)

func TestP4_1_CheckAtTheEdges(t *testing.T) {
	for _, x := range []struct {
		what string
		p    api.Pointer
		want api.Errno
	}{
		{"the chapter's p", example(), api.OK},
		{"a hole", api.Pointer{}, api.OK},
		{"a hole with a list of none", api.Pointer{Addrs: []api.Addr{}}, api.OK},
		{"a hole of Birth 1", api.Pointer{Birth: 1}, api.ErrArg},
		{"a hole of Birth -1", api.Pointer{Birth: -1}, api.ErrArg},
		{"a hole of Level 1", api.Pointer{Level: 1}, api.ErrArg},
		{"a hole of Level -1", api.Pointer{Level: -1}, api.ErrArg},
		{"a hole with a Sum", api.Pointer{Sum: with(31, 1)}, api.ErrArg},
		{"all but addresses", api.Pointer{Birth: 7, Level: 2, Sum: with(0, 9)}, api.ErrArg},
		{"addresses of noughts", api.Pointer{Addrs: make([]api.Addr, 1)}, api.ErrArg},
		{"1 address", changed(func(p *api.Pointer) { p.Addrs = p.Addrs[:1] }), api.OK},
		{"3 addresses", changed(func(p *api.Pointer) { p.Addrs = append(p.Addrs, at(2, 5)) }), api.OK},
		{"4 addresses", changed(func(p *api.Pointer) { p.Addrs = append(p.Addrs, at(2, 5), at(3, 5)) }), api.ErrArg},
		{"falling addresses", changed(func(p *api.Pointer) { p.Addrs = []api.Addr{at(7, 9), at(3, 8), at(0, 7)} }), api.OK},
		{"one At on two devices", changed(func(p *api.Pointer) { p.Addrs[1].At = 5 }), api.OK},
		{"1 5 twice", changed(func(p *api.Pointer) { p.Addrs[1] = at(1, 5) }), api.ErrArg},
		{"two sectors of one device", changed(func(p *api.Pointer) { p.Addrs[1].Dev = 1 }), api.ErrArg},
		{"the first and the third on one device", changed(func(p *api.Pointer) { p.Addrs = append(p.Addrs, at(1, 9)) }), api.ErrArg},
		{"the second and the third on one device", changed(func(p *api.Pointer) { p.Addrs = append(p.Addrs, at(0, 9)) }), api.ErrArg},
		{"Dev -1", changed(func(p *api.Pointer) { p.Addrs[0].Dev = -1 }), api.ErrArg},
		{"Dev 7", changed(func(p *api.Pointer) { p.Addrs[0].Dev = 7 }), api.OK},
		{"Dev 8", changed(func(p *api.Pointer) { p.Addrs[1].Dev = 8 }), api.ErrArg},
		{"At 4", changed(func(p *api.Pointer) { p.Addrs[0].At = 4 }), api.ErrArg},
		{"At 5", changed(func(p *api.Pointer) { p.Addrs[1].At = 5 }), api.OK},
		{"At 4095", changed(func(p *api.Pointer) { p.Addrs[1].At = 4095 }), api.OK},
		{"At 4096", changed(func(p *api.Pointer) { p.Addrs[1].At = 4096 }), api.ErrArg},
		{"Birth 0", changed(func(p *api.Pointer) { p.Birth = 0 }), api.ErrArg},
		{"Birth 1", changed(func(p *api.Pointer) { p.Birth = 1 }), api.OK},
		{"Birth 2^31", changed(func(p *api.Pointer) { p.Birth = 1 << 31 }), api.OK},
		{"Birth 2^31 and one", changed(func(p *api.Pointer) { p.Birth = 1<<31 + 1 }), api.ErrArg},
		{"Level -1", changed(func(p *api.Pointer) { p.Level = -1 }), api.ErrArg},
		{"Level 0", changed(func(p *api.Pointer) { p.Level = 0 }), api.OK},
		{"Level 3", changed(func(p *api.Pointer) { p.Level = 3 }), api.OK},
		{"Level 4", changed(func(p *api.Pointer) { p.Level = 4 }), api.ErrArg},
		{"any Sum", changed(func(p *api.Pointer) { p.Sum = with(5, 255) }), api.OK},
	} {
		if got := pointer.Check(x.p); got != x.want {
			t.Errorf("%s: %v", x.what, got)
		}
	}
}

func TestP4_1_CheckHoleAndBytesOfAll(t *testing.T) {
	good := 0
	for _, p := range edges() {
		e := pointer.Check(p)
		b, be := pointer.Bytes(p)
		want := api.ErrArg
		var bytesWanted []byte
		if may(p) {
			want, bytesWanted = api.OK, encoded(p)
			good++
		}
		if e != want || be != want || !bytes.Equal(b, bytesWanted) {
			t.Fatalf("%v: %v; %v, %v", p, e, b, be)
		}
		if got := pointer.Hole(p); got != hole(p) {
			t.Fatalf("Hole of %v: %v", p, got)
		}
	}
	if good < 500 {
		t.Error("too few may be:", good)
	}
}

func TestP4_1_Hole(t *testing.T) {
	for _, x := range []struct {
		p    api.Pointer
		want bool
	}{
		{api.Pointer{}, true},
		{api.Pointer{Addrs: []api.Addr{}}, true},
		{api.Pointer{Addrs: make([]api.Addr, 0, 3)}, true},
		{example(), false},
		{api.Pointer{Addrs: make([]api.Addr, 1)}, false}, // one address, although of noughts
		{api.Pointer{Birth: 1}, false},
		{api.Pointer{Birth: -1}, false},
		{api.Pointer{Level: 1}, false},
		{api.Pointer{Level: -1}, false},
	} {
		if got := pointer.Hole(x.p); got != x.want {
			t.Errorf("%v: %v", x.p, got)
		}
	}
	for i := range 32 {
		if pointer.Hole(api.Pointer{Sum: with(i, 1)}) {
			t.Errorf("a hole with a Sum, byte %d", i)
		}
	}
}

func TestP4_1_Bytes(t *testing.T) {
	var sum api.ID
	for i := range sum {
		sum[i] = byte(100 + i)
	}
	noughts := make([]byte, 32)
	for _, x := range []struct {
		what string
		p    api.Pointer
		want []byte
	}{
		{"a hole", api.Pointer{}, make([]byte, 47)},
		{"the chapter's p", example(), slices.Concat([]byte{2, 1, 0, 5, 0, 1, 44, 0, 0, 0, 0, 0, 0, 7, 2}, noughts)},
		{"1 address", api.Pointer{Addrs: []api.Addr{at(7, 4095)}, Birth: 1 << 31, Level: 3, Sum: sum},
			slices.Concat([]byte{1, 7, 15, 255, 0, 0, 0, 0, 0, 0, 128, 0, 0, 0, 3}, sum[:])},
		{"3 addresses", api.Pointer{Addrs: []api.Addr{at(2, 258), at(0, 5), at(6, 1000)}, Birth: 1<<31 - 1, Sum: sum},
			slices.Concat([]byte{3, 2, 1, 2, 0, 0, 5, 6, 3, 232, 127, 255, 255, 255, 0}, sum[:])},
		{"the least", api.Pointer{Addrs: []api.Addr{at(0, 5)}, Birth: 1}, slices.Concat([]byte{1, 0, 0, 5, 0, 0, 0, 0, 0, 0, 0, 0, 0, 1, 0}, noughts)},
		{"Birth of four unlike bytes", api.Pointer{Addrs: []api.Addr{at(0, 5)}, Birth: 0x01020304}, slices.Concat([]byte{1, 0, 0, 5, 0, 0, 0, 0, 0, 0, 1, 2, 3, 4, 0}, noughts)},
	} {
		if b, e := pointer.Bytes(x.p); e != api.OK || !bytes.Equal(b, x.want) {
			t.Errorf("%s: %v, %v", x.what, b, e)
		}
	}
}

// pairs are unlike in one thing each, or in none.
func pairs() []struct {
	what       string
	b          api.Pointer
	same, like bool
} {
	return []struct {
		what       string
		b          api.Pointer
		same, like bool
	}{
		{"itself", example(), true, true},
		{"its addresses turned about", changed(func(p *api.Pointer) { slices.Reverse(p.Addrs) }), false, true},
		{"one address less", changed(func(p *api.Pointer) { p.Addrs = p.Addrs[:1] }), false, true},
		{"one address more", changed(func(p *api.Pointer) { p.Addrs = append(p.Addrs, at(2, 5)) }), false, true},
		{"four addresses", changed(func(p *api.Pointer) { p.Addrs = make([]api.Addr, 4) }), false, true},
		{"no addresses", changed(func(p *api.Pointer) { p.Addrs = nil }), false, false},
		{"another Dev ahead", changed(func(p *api.Pointer) { p.Addrs[0].Dev = 2 }), false, true},
		{"another At ahead", changed(func(p *api.Pointer) { p.Addrs[0].At = 6 }), false, true},
		{"another Dev behind", changed(func(p *api.Pointer) { p.Addrs[1].Dev = 2 }), false, true},
		{"another At behind", changed(func(p *api.Pointer) { p.Addrs[1].At = 301 }), false, true},
		{"a Dev of the same byte", changed(func(p *api.Pointer) { p.Addrs[1].Dev = 256 }), false, true},
		{"an At of the same bytes", changed(func(p *api.Pointer) { p.Addrs[1].At = 300 + 65536 }), false, true},
		{"another Birth", changed(func(p *api.Pointer) { p.Birth = 8 }), false, false},
		{"a Birth of the same bytes", changed(func(p *api.Pointer) { p.Birth = 7 + 1<<32 }), false, false},
		{"another Level", changed(func(p *api.Pointer) { p.Level = 1 }), false, false},
		{"a Level of the same byte", changed(func(p *api.Pointer) { p.Level = 258 }), false, false},
	}
}

func TestP4_1_SameAndLike(t *testing.T) {
	for _, x := range pairs() {
		a, b := example(), x.b
		if pointer.Same(a, b) != x.same || pointer.Same(b, a) != x.same {
			t.Errorf("Same of p and p with %s: %v, %v", x.what, pointer.Same(a, b), pointer.Same(b, a))
		}
		if pointer.Like(a, b) != x.like || pointer.Like(b, a) != x.like {
			t.Errorf("Like of p and p with %s: %v, %v", x.what, pointer.Like(a, b), pointer.Like(b, a))
		}
	}
	for i := range 32 {
		b := changed(func(p *api.Pointer) { p.Sum[i] = 1 })
		if pointer.Same(example(), b) || pointer.Like(example(), b) {
			t.Errorf("Sum, byte %d", i)
		}
	}
}

func TestP4_1_SameAndLikeOfThoseWithoutAddresses(t *testing.T) {
	for _, none := range [][]api.Addr{nil, {}} {
		for _, p := range []api.Pointer{{}, {Birth: 7}, {Level: -1}, {Sum: with(3, 4)}} { // but for the hole none of these may be
			a, b := p, p
			b.Addrs = none
			if !pointer.Same(a, b) || !pointer.Like(a, b) || !pointer.Same(b, a) || !pointer.Like(b, a) {
				t.Errorf("%v and itself", p)
			}
			b.Addrs = make([]api.Addr, 1)
			if pointer.Same(a, b) || pointer.Like(a, b) || pointer.Same(b, a) || pointer.Like(b, a) {
				t.Errorf("%v and %v", a, b)
			}
		}
	}
}

func TestP4_1_SameAndLikeOfAny(t *testing.T) {
	all := edges()
	d := dice(1)
	for range 200000 {
		a, b := all[d.below(len(all))], all[d.below(len(all))]
		if d.below(2) == 0 { // so that they are unlike in addresses alone
			b.Birth, b.Level, b.Sum = a.Birth, a.Level, a.Sum
		}
		if d.below(3) == 0 { // or in all but these
			b.Addrs = a.Addrs
		}
		if got := pointer.Same(a, b); got != same(a, b) {
			t.Fatalf("Same of %v and %v: %v", a, b, got)
		}
		if got := pointer.Like(a, b); got != like(a, b) {
			t.Fatalf("Like of %v and %v: %v", a, b, got)
		}
	}
}

func TestP4_1_WhatIsHandedInStays(t *testing.T) {
	room := []api.Addr{at(1, 5), at(0, 300), at(1, 9), at(-1, 0)} // behind two: spare room that may not be
	was := slices.Clone(room)
	for n := range 3 {
		p := api.Pointer{Addrs: room[:n], Birth: 7, Level: 2}
		q := copied(p)
		if n == 0 {
			p, q = api.Pointer{Addrs: room[:0]}, api.Pointer{}
		}
		b, e := pointer.Bytes(p)
		if pointer.Check(p) != api.OK || e != api.OK || !bytes.Equal(b, encoded(q)) || pointer.Hole(p) != (n == 0) {
			t.Errorf("the spare room counts: %d, %v, %v", n, b, e)
		}
		if !pointer.Same(p, q) || !pointer.Same(q, p) || !pointer.Like(p, q) || !pointer.Like(q, p) {
			t.Errorf("the spare room counts: %d", n)
		}
		if !slices.Equal(room, was) {
			t.Fatalf("%d: what was handed in is %v", n, room)
		}
	}
}

func TestP4_1_WhatIsToldIsNewMemory(t *testing.T) {
	for _, p := range []api.Pointer{{}, example()} {
		first, _ := pointer.Bytes(p)
		second, _ := pointer.Bytes(p)
		for i := range first {
			first[i] = 99
		}
		spare := first[:cap(first)]
		for i := range spare {
			spare[i] = 98
		}
		if !bytes.Equal(second, encoded(p)) {
			t.Errorf("two answers share memory: %v", second)
		}
		if third, e := pointer.Bytes(p); e != api.OK || !bytes.Equal(third, encoded(p)) {
			t.Errorf("behind a changed answer: %v, %v", third, e)
		}
	}
}
