package pointer_test

import (
	"bytes"
	"testing"

	"caulker/api"
	"caulker/pointer"
)

func TestP4_3_APointersBytesAreReadAsIt(t *testing.T) {
	d := dice(5)
	for range 20000 {
		p := d.pointer()
		b, e := pointer.Bytes(p)
		if e != api.OK || len(b) != 47 {
			t.Fatalf("%v: %v, %v", p, b, e)
		}
		if got, f := pointer.Read(b); f != (api.Fault{}) || !same(got, p) || !pointer.Same(got, p) || !pointer.Like(got, p) {
			t.Fatalf("%v as %v: %v, %v", p, b, got, f)
		}
	}
	for _, p := range edges() {
		b, e := pointer.Bytes(p)
		if e != api.OK {
			continue
		}
		if got, f := pointer.Read(b); f != (api.Fault{}) || !same(got, p) {
			t.Fatalf("%v as %v: %v, %v", p, b, got, f)
		}
	}
}

func TestP4_3_WhatIsReadIsToldAsItsBytes(t *testing.T) {
	d := dice(6)
	right, wrong := 0, 0
	for range 100000 {
		b := encoded(d.pointer())
		b[d.below(16)] = byte(d.below(256) & (d.below(2) * 255 >> d.below(8)))
		p, f := pointer.Read(b)
		if f != (api.Fault{}) {
			wrong++
			continue
		}
		right++
		if pointer.Check(p) != api.OK {
			t.Fatalf("%v is read as %v, which may not be", b, p)
		}
		if got, e := pointer.Bytes(p); e != api.OK || !bytes.Equal(got, b) {
			t.Fatalf("%v is read as %v, and told as %v, %v", b, p, got, e)
		}
	}
	if right < 1000 || wrong < 1000 {
		t.Error("too few of a kind:", right, wrong)
	}
}

func TestP4_3_OnlyTheSameHaveTheSameBytes(t *testing.T) {
	d := dice(7)
	var all []api.Pointer
	for _, p := range edges() {
		if may(p) {
			all = append(all, p)
		}
	}
	for range 300 {
		all = append(all, d.pointer())
	}
	told := make([][]byte, len(all))
	for i, p := range all {
		told[i], _ = pointer.Bytes(p)
	}
	for i, p := range all {
		for j, q := range all {
			if bytes.Equal(told[i], told[j]) != same(p, q) {
				t.Fatalf("%v and %v: %v and %v", p, q, told[i], told[j])
			}
		}
	}
}
