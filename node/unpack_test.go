package node_test

import (
	"bytes"
	"slices"
	"strconv"
	"testing"

	"caulker/api"
	"caulker/node"
)

func TestP5_2_UnpackOfFewerOrMoreBytes(t *testing.T) {
	d := dice(1)
	refused := func(what string, b []byte) {
		t.Helper()
		if n, e := node.Unpack(b); e != api.ErrBytes || !same(n, api.Node{}) {
			t.Errorf("%s: %v, %v", what, n, e)
		}
	}
	longer := append(encoded(full(2)), make([]byte, 600)...)
	for n := range 800 {
		if n != 256 {
			refused(strconv.Itoa(n)+" noughts", make([]byte, n))
			refused(strconv.Itoa(n)+" of a node, and noughts", longer[:n])
			refused(strconv.Itoa(n)+" of anything", d.bytes(n))
		}
	}
	refused("none", nil)
	refused("very many", make([]byte, 1<<20))
	refused("a node twice", slices.Concat(encoded(full(1)), encoded(full(1))))
	refused("a node but its Level", encoded(full(1))[1:])
}

func TestP5_2_UnpackWhatMayBe(t *testing.T) {
	for level := 1; level <= 3; level++ {
		for holes := range 16 {
			want := full(level)
			for i := range api.Fan {
				if holes>>i&1 == 1 {
					want.P[i] = api.Pointer{}
				}
			}
			n, e := node.Unpack(encoded(want))
			holds(t, "Level "+strconv.Itoa(level)+", holes "+strconv.Itoa(holes), n, e, want, true)
		}
	}
	b := make([]byte, 256)
	copy(b, []byte{3, 2, 1, 0, 5, 0, 1, 44, 0, 0, 0, 0, 0, 0, 7, 2})
	b[47] = 4
	copy(b[142:], []byte{1, 7, 15, 255, 0, 0, 0, 0, 0, 0, 128, 0, 0, 0, 2, 5})
	n, e := node.Unpack(b)
	first := api.Pointer{Addrs: []api.Addr{at(1, 5), at(0, 300)}, Birth: 7, Level: 2, Sum: api.ID{31: 4}}
	last := api.Pointer{Addrs: []api.Addr{at(7, 4095)}, Birth: 1 << 31, Level: 2, Sum: api.ID{5}}
	holds(t, "byte by byte", n, e, api.Node{Level: 3, P: [4]api.Pointer{first, {}, {}, last}}, true)
}

func TestP5_2_UnpackOfALevelThatIsNone(t *testing.T) {
	for level := range 256 {
		b := make([]byte, 256)
		b[0] = byte(level)
		n, e := node.Unpack(b)
		holds(t, "holes, Level "+strconv.Itoa(level), n, e, api.Node{Level: level}, level >= 1 && level <= 3)
		for of := range 5 {
			b := encoded(full(of))
			b[0] = byte(level)
			n, e := node.Unpack(b)
			holds(t, "pointers of Level "+strconv.Itoa(of-1)+", Level "+strconv.Itoa(level), n, e, full(of), level == of && level >= 1 && level <= 3)
		}
	}
}

func TestP5_2_UnpackWithBytesBehindThePointers(t *testing.T) {
	for _, n := range []api.Node{{Level: 1}, {Level: 3}, full(2)} {
		for where := 189; where < 256; where++ {
			for x := 1; x < 256; x++ {
				b := encoded(n)
				b[where] = byte(x)
				got, e := node.Unpack(b)
				holds(t, "byte "+strconv.Itoa(where), got, e, api.Node{}, false)
			}
		}
		b := append(encoded(n)[:189], bytes.Repeat([]byte{255}, 67)...)
		got, e := node.Unpack(b)
		holds(t, "all behind the pointers", got, e, api.Node{}, false)
	}
}

func TestP5_2_UnpackWithOnePointerThatMayNotBe(t *testing.T) {
	for level := 1; level <= 3; level++ {
		for i := range api.Fan {
			for _, p := range pointers() {
				want := put(full(level), i, p)
				if len(p.Addrs) > 3 || p.Level < 0 || p.Level > 255 { // these have no bytes
					continue
				}
				n, e := node.Unpack(encoded(want))
				holds(t, "Level "+strconv.Itoa(level)+" at "+strconv.Itoa(i), n, e, want, may(want))
			}
			for _, where := range []int{7, 8, 9} { // a third address that is not one of two
				b := encoded(full(level))
				b[1+47*i+where] = 1
				n, e := node.Unpack(b)
				holds(t, "unused room", n, e, api.Node{}, false)
			}
		}
	}
}

// unpacked holds Unpack of 256 bytes against what it should tell.
func unpacked(t *testing.T, b []byte) bool {
	t.Helper()
	want, right := decoded(b)
	n, e := node.Unpack(b)
	holds(t, "some sector", n, e, want, right)
	return right
}

func TestP5_2_UnpackOfAllThatOneByteMakes(t *testing.T) {
	for _, n := range []api.Node{{Level: 1}, full(1), full(3), put(full(2), 1, api.Pointer{})} {
		for where := range 256 {
			for x := range 256 {
				b := encoded(n)
				b[where] = byte(x)
				unpacked(t, b)
			}
		}
	}
}

func TestP5_2_UnpackOfAny(t *testing.T) {
	d := dice(2)
	right := 0
	for range 30000 {
		b := encoded(d.node())
		for range d.below(3) {
			where := []int{0, 1 + 47*d.below(4) + d.below(15), 189 + d.below(67)}[d.below(3)]
			b[where] = []byte{0, 1, 2, 3, 4, 5, 7, 8, 15, 16, 128, 255}[d.below(12)]
		}
		if unpacked(t, b) {
			right++
		}
		unpacked(t, d.bytes(256))
	}
	if right < 5000 || right > 25000 {
		t.Error("too few, or too many, may be:", right)
	}
}

func TestP5_2_WhatIsHandedInStays(t *testing.T) {
	d := dice(3)
	for range 300 {
		room := append(encoded(d.node()), d.bytes(20)...)
		was := slices.Clone(room)
		for _, n := range []int{0, 255, 256, 257} {
			_, e := node.Unpack(room[:n])
			if n == 256 && e != api.OK || n != 256 && e != api.ErrBytes {
				t.Fatalf("%d bytes: %v", n, e)
			}
			if !bytes.Equal(room, was) {
				t.Fatalf("%d bytes: what was handed in is %v, was %v", n, room, was)
			}
		}
	}
}

func TestP5_2_WhatIsToldIsNewMemory(t *testing.T) {
	same4 := api.Node{Level: 2, P: [4]api.Pointer{of(1, 9), of(1, 9), of(1, 9), of(1, 9)}}
	for _, want := range []api.Node{full(1), full(3), same4} {
		b := encoded(want)
		first, _ := node.Unpack(b)
		second, _ := node.Unpack(b)
		for i := range b { // what was handed in is not looked at later
			b[i] = 99
		}
		if !same(first, want) {
			t.Errorf("a changed argument changes the answer: %v", first)
		}
		listsApart(t, first)
		if !same(second, want) {
			t.Errorf("two answers share memory: %v", second)
		}
		if third, e := node.Unpack(encoded(want)); e != api.OK || !same(third, want) {
			t.Errorf("behind a changed answer: %v, %v", third, e)
		}
	}
}
