package node_test

import (
	"bytes"
	"testing"

	"caulker/api"
	"caulker/node"
)

func TestP5_3_WhatIsPackedIsUnpacked(t *testing.T) {
	d := dice(4)
	for range 10000 {
		n := d.node()
		b, e := node.Pack(n)
		if e != api.OK || len(b) != 256 {
			t.Fatalf("%v: %v, %v", n, b, e)
		}
		got, e := node.Unpack(b)
		holds(t, "packed", got, e, n, true)
	}
	for _, n := range nodes() {
		b, e := node.Pack(n)
		if e != api.OK {
			continue
		}
		got, e := node.Unpack(b)
		holds(t, "packed", got, e, n, true)
	}
}

func TestP5_3_WhatIsUnpackedIsPackedAsThatSector(t *testing.T) {
	d := dice(5)
	right, wrong := 0, 0
	for range 30000 {
		b := encoded(d.node())
		b[d.below(256)] = byte(d.below(256) & (d.below(2) * 255 >> d.below(8)))
		n, e := node.Unpack(b)
		if e != api.OK {
			wrong++
			continue
		}
		right++
		if node.Check(n) != api.OK {
			t.Fatalf("%v is unpacked as %v, which may not be", b, n)
		}
		if got, e := node.Pack(n); e != api.OK || !bytes.Equal(got, b) {
			t.Fatalf("%v is unpacked as %v, and packed as %v, %v", b, n, got, e)
		}
	}
	if right < 1000 || wrong < 1000 {
		t.Error("too few of a kind:", right, wrong)
	}
}

func TestP5_3_WhatIsSetIsThereAndTheOtherThreeStay(t *testing.T) {
	d := dice(6)
	for range 10000 {
		n := d.node()
		was := copied(n)
		i, p := d.below(4), d.pointer(n.Level-1)
		got, e := node.Set(n, i, p)
		if e != api.OK || got.Level != n.Level || !samePointer(got.P[i], p) {
			t.Fatalf("%v with %v at %d: %v, %v", n, p, i, got, e)
		}
		for j := range api.Fan {
			if j != i && !samePointer(got.P[j], was.P[j]) {
				t.Fatalf("%v with %v at %d: %v", n, p, i, got)
			}
		}
		if !same(n, was) {
			t.Fatalf("with %v at %d: the node itself is %v, was %v", p, i, n, was)
		}
		if node.Check(got) != api.OK || node.Empty(got) != empty(got) {
			t.Fatalf("%v with %v at %d: %v may not be", n, p, i, got)
		}
	}
}

func TestP5_3_SetOneByOneIsTheWhole(t *testing.T) {
	d := dice(7)
	for range 1000 {
		want := d.node()
		n := api.Node{Level: want.Level}
		for _, i := range []int{2, 0, 3, 1} {
			var e api.Errno
			if n, e = node.Set(n, i, want.P[i]); e != api.OK {
				t.Fatalf("%v at %d: %v", want, i, e)
			}
		}
		if !same(n, want) {
			t.Fatalf("%v is set as %v", want, n)
		}
		for i := range api.Fan {
			n, _ = node.Set(n, i, api.Pointer{})
		}
		if !node.Empty(n) || n.Level != want.Level {
			t.Fatalf("%v with holes alone: %v", want, n)
		}
	}
}
