package field_test

import (
	"bytes"
	"strings"
	"testing"

	"caulker/api"
	"caulker/field"
)

// dice is a row of numbers that looks like chance and is the same in each run.
type dice uint64

func (d *dice) below(n int) int {
	*d = *d*6364136223846793005 + 1442695040888963407
	return int(uint64(*d) >> 33 % uint64(n))
}

func (d *dice) bytes(n int) []byte {
	b := make([]byte, n)
	for i := range b {
		b[i] = byte(d.below(256))
	}
	return b
}

// thing is what is written and read: a number of a size (0), a text of a most (1), raw bytes (2); size and most are its room.
type thing struct {
	kind, n, room int
	s             string
}

func (d *dice) thing() thing {
	x := thing{kind: d.below(3)}
	switch x.kind {
	case 0:
		x.room = 1 + d.below(7)
		x.n = (d.below(1<<28)<<28 | d.below(1<<28)) >> (56 - 8*x.room)
	case 1:
		x.room = d.below(256)
		x.s = string(d.bytes(d.below(x.room + 1)))
	default:
		x.room = d.below(40)
		x.s = string(d.bytes(x.room))
	}
	return x
}

func (x thing) write(w *field.Writer) {
	switch x.kind {
	case 0:
		w.Num(x.n, x.room)
	case 1:
		w.Text(x.s, x.room)
	default:
		w.Raw([]byte(x.s))
	}
}

// read tells a thing of the same kind and room.
func (x thing) read(r *field.Reader) thing {
	got := thing{kind: x.kind, room: x.room}
	switch x.kind {
	case 0:
		got.n = r.Num(x.room, 0, 1<<56)
	case 1:
		got.s = r.Text(x.room)
	default:
		got.s = string(r.Raw(x.room))
	}
	return got
}

func TestP1_4_WhatIsWrittenIsRead(t *testing.T) {
	d := dice(1)
	for range 300 {
		w := field.New()
		var things []thing
		for range d.below(20) {
			x := d.thing()
			things = append(things, x)
			x.write(w)
		}
		first, _ := w.Out()
		w.Pad(len(first) + d.below(9))
		b, e := w.Out()
		if e != api.OK {
			t.Fatal(e)
		}
		r := field.Open(b)
		for i, x := range things {
			if got := x.read(r); got != x {
				t.Fatalf("%d: wrote %#v, read %#v, %v", i, x, got, r.Fault())
			}
		}
		if r.At() != len(first) {
			t.Error(r.At(), len(first))
		}
		r.Rest()
		if r.End() != none {
			t.Error(r.End())
		}
	}
}

func TestP1_4_WhatIsReadIsWritten(t *testing.T) {
	d := dice(2)
	read := 0
	for range 3000 {
		b := d.bytes(d.below(12))
		for i := range b { // many noughts and short lengths, so that texts are read as well
			b[i] &= byte(d.below(2) * 3)
		}
		r, w := field.Open(b), field.New()
		for range d.below(5) {
			x := d.thing()
			x.room = 1 + x.room%6
			if got := x.read(r); r.Fault() == none {
				got.write(w)
			}
		}
		if r.Fault() != none {
			continue
		}
		r.Rest()
		if r.Fault() != none {
			continue
		}
		read++
		w.Pad(len(b))
		if out, e := w.Out(); e != api.OK || !bytes.Equal(out, b) {
			t.Fatalf("read from %v, written as %v, %v", b, out, e)
		}
	}
	if read < 100 {
		t.Error("too few were read as a whole:", read)
	}
}

func TestP1_5_RoomHangsOnSizeAndMostAlone(t *testing.T) {
	room := func(do func(w *field.Writer)) int {
		w := field.New()
		do(w)
		b, e := w.Out()
		if e != api.OK {
			t.Fatal(e)
		}
		return len(b)
	}
	for size := 1; size <= 7; size++ {
		for _, n := range []int{0, 1, 200, 1<<(8*size) - 1} {
			if got := room(func(w *field.Writer) { w.Num(n, size) }); got != size {
				t.Errorf("Num(%d, %d) takes %d bytes", n, size, got)
			}
		}
	}
	for _, most := range []int{0, 1, 2, 20, 254, 255} {
		for n := 0; n <= most; n++ {
			if got := room(func(w *field.Writer) { w.Text(strings.Repeat("\xff", n), most) }); got != 1+most {
				t.Errorf("a Text of %d bytes, most %d, takes %d bytes", n, most, got)
			}
			r := field.Open(append(append([]byte{byte(n)}, bytes.Repeat([]byte{1}, n)...), make([]byte, 300)...))
			if r.Text(most); r.At() != 1+most {
				t.Errorf("reading a text of %d bytes, most %d, goes past %d", n, most, r.At())
			}
		}
	}
}
