package record_test

import (
	"bytes"
	"slices"
	"testing"

	"caulker/api"
	"caulker/record"
)

// many are tables that may be, such as are unlike in one field alone among them.
func many() []api.Table {
	all := []api.Table{none(), one(), full(), least(), most()}
	for _, f := range fields() {
		for _, n := range slices.Concat(f.at, []int{0, 1, 2, 64}) {
			x := full()
			f.set(&x, n)
			if able(x) {
				all = append(all, x)
			}
		}
	}
	for i := range full().Records {
		for _, name := range []string{"a", "a1", "b", "bb", "d", long("d")} {
			x := full()
			x.Records[i].Name = name
			if able(x) {
				all = append(all, x)
			}
		}
	}
	d := dice(5)
	for range 300 {
		all = append(all, d.table())
	}
	return all
}

func TestP12_3_ATablesBytesAreReadAsIt(t *testing.T) {
	all := many()
	d := dice(6)
	for range 2000 {
		all = append(all, d.table())
	}
	for _, x := range all {
		b, e := record.Bytes(x)
		if e != api.OK {
			t.Fatalf("%s: %v", text(x), e)
		}
		if back, f := record.Read(b); f != (api.Fault{}) || !same(back, x) || !record.Same(back, x) || record.Check(back) != api.OK {
			t.Fatalf("%s: %s, %v", text(x), text(back), f)
		}
	}
}

func TestP12_3_WhatIsReadIsToldAsItsBytes(t *testing.T) {
	d := dice(7)
	read, wrong := 0, 0
	for range 20000 {
		b := encoded(d.table())
		for range d.below(3) {
			b[d.below(len(b))] = byte(d.below(256))
		}
		x, f := record.Read(b)
		if f != (api.Fault{}) {
			wrong++
			continue
		}
		read++
		if again, e := record.Bytes(x); e != api.OK || !bytes.Equal(again, b) {
			t.Fatalf("%v: %s, told as %v, %v", b, text(x), again, e)
		}
	}
	if read < 1000 || wrong < 1000 {
		t.Error("too few of a kind:", read, wrong)
	}
}

func TestP12_3_OnlyTheSameHaveTheSameBytes(t *testing.T) {
	all := many()
	told := make([][]byte, len(all))
	for i, x := range all {
		told[i], _ = record.Bytes(x)
	}
	for i, x := range all {
		for j, y := range all[:i] {
			if is := bytes.Equal(told[i], told[j]); is != record.Same(x, y) || is != same(x, y) {
				t.Fatalf("%s and %s: %v and %v", text(x), text(y), told[i], told[j])
			}
		}
	}
}
