package pointer_test

import (
	"bytes"
	"slices"
	"strconv"
	"testing"

	"caulker/api"
	"caulker/pointer"
)

var wrongBytes = api.Fault{Err: api.ErrArg}

func TestP4_2_ReadOfFewerOrMoreBytes(t *testing.T) {
	d := dice(2)
	for n := range 300 {
		want := api.Fault{Err: api.ErrBytes, At: min(n, 47)}
		if n == 47 {
			continue
		}
		longer := append(encoded(example()), make([]byte, 300)...)
		twice := bytes.Repeat(encoded(example()), 7)
		for i, b := range [][]byte{make([]byte, n), d.bytes(n), bytes.Repeat([]byte{255}, n), longer[:n], twice[:n]} {
			p, f := pointer.Read(b)
			refused(t, strconv.Itoa(n)+" bytes, "+strconv.Itoa(i), p, f, want)
		}
	}
	p, f := pointer.Read(nil)
	refused(t, "none", p, f, api.Fault{Err: api.ErrBytes})
	p, f = pointer.Read(make([]byte, 1<<20))
	refused(t, "very many", p, f, api.Fault{Err: api.ErrBytes, At: 47})
}

func TestP4_2_ReadWhatMayBe(t *testing.T) {
	three := api.Pointer{Addrs: []api.Addr{at(7, 4095), at(0, 5), at(3, 258)}, Birth: 1 << 31, Level: 3, Sum: with(31, 255)}
	least := api.Pointer{Addrs: []api.Addr{at(0, 5)}, Birth: 1}
	for i, want := range []api.Pointer{{}, example(), three, least} {
		if p, f := pointer.Read(encoded(want)); f != (api.Fault{}) || !same(p, want) {
			t.Errorf("%d: %v, %v", i, p, f)
		}
	}
	b := append([]byte{2, 1, 0, 5, 0, 1, 44, 0, 0, 0, 0, 0, 0, 7, 2}, make([]byte, 32)...)
	if p, f := pointer.Read(b); f != (api.Fault{}) || !same(p, example()) {
		t.Error(p, f)
	}
}

func TestP4_2_ReadWhatMayNotBe(t *testing.T) {
	one := append([]byte{1, 7, 0, 9}, make([]byte, 43)...)
	one[13] = 1
	three := encoded(api.Pointer{Addrs: []api.Addr{at(7, 4095), at(0, 5), at(3, 258)}, Birth: 1 << 31, Level: 3})
	put := func(b []byte, where int, what ...byte) []byte {
		b = slices.Clone(b)
		copy(b[where:], what)
		return b
	}
	hole, two := make([]byte, 47), encoded(example())
	for _, x := range []struct {
		what string
		b    []byte
	}{
		{"one address of noughts", put(hole, 0, 1)},
		{"a hole of Birth 1", put(hole, 13, 1)},
		{"a hole of Level 1", put(hole, 14, 1)},
		{"a hole with a Sum", put(hole, 46, 1)},
		{"two said, one there", put(one, 0, 2)},
		{"none said, one there", put(one, 0, 0)},
		{"one said, two there", put(two, 0, 1)},
		{"three said, two there", put(two, 0, 3)},
		{"two said, three there", put(three, 0, 2)},
		{"four said, three there", put(three, 0, 4)},
		{"255 said", put(three, 0, 255)},
		{"256 modulo: 130 said", put(two, 0, 130)},
		{"Dev 8", put(two, 1, 8)},
		{"Dev 255", put(two, 1, 255)},
		{"Dev 8, the last one", put(three, 7, 8)},
		{"two on one device", put(two, 4, 1)},
		{"the first and the third on one device", put(three, 7, 7)},
		{"the second and the third on one device", put(three, 7, 0)},
		{"one address twice", put(two, 4, 1, 0, 5)},
		{"At 4", put(two, 3, 4)},
		{"At 4096", put(two, 2, 16, 0)},
		{"At 65535", put(two, 5, 255, 255)},
		{"At 0", put(three, 8, 0, 0)},
		{"Birth 0", put(two, 13, 0)},
		{"Birth 2^31 and one", put(two, 10, 128, 0, 0, 1)},
		{"Birth 2^32 less one", put(two, 10, 255, 255, 255, 255)},
		{"Level 4", put(two, 14, 4)},
		{"Level 255", put(two, 14, 255)},
		{"all 255", bytes.Repeat([]byte{255}, 47)},
		{"all 1", bytes.Repeat([]byte{1}, 47)},
	} {
		p, f := pointer.Read(x.b)
		refused(t, x.what, p, f, wrongBytes)
	}
}

func TestP4_2_ReadOfUnusedPlaces(t *testing.T) {
	all := []api.Addr{at(7, 4095), at(0, 5), at(3, 258)}
	for n := range 4 {
		p := api.Pointer{Addrs: all[:n], Birth: 7, Level: 2}
		if n == 0 {
			p = api.Pointer{}
		}
		for where := 1 + 3*n; where < 10; where++ {
			for x := 1; x < 256; x++ {
				b := encoded(p)
				b[where] = byte(x)
				got, f := pointer.Read(b)
				refused(t, strconv.Itoa(n)+" addresses, byte "+strconv.Itoa(where), got, f, wrongBytes)
			}
		}
	}
}

// read holds Read of 47 bytes against what it should tell.
func read(t *testing.T, b []byte) bool {
	t.Helper()
	want, right := decoded(b)
	fault := api.Fault{}
	if !right {
		fault = wrongBytes
	}
	if p, f := pointer.Read(b); f != fault || !same(p, want) {
		t.Fatalf("%v: %v, %v; want %v, %v", b, p, f, want, fault)
	}
	return right
}

func TestP4_2_ReadOfAllThatOneByteMakes(t *testing.T) {
	three := api.Pointer{Addrs: []api.Addr{at(7, 4095), at(0, 5), at(3, 258)}, Birth: 1 << 31, Level: 3, Sum: with(31, 255)}
	for _, p := range []api.Pointer{{}, example(), three, {Addrs: []api.Addr{at(0, 5)}, Birth: 1}} {
		for where := range 47 {
			for x := range 256 {
				b := encoded(p)
				b[where] = byte(x)
				read(t, b)
			}
		}
	}
}

func TestP4_2_ReadOfAny(t *testing.T) {
	d := dice(3)
	right := 0
	for range 100000 {
		b := encoded(d.pointer())
		for range d.below(4) {
			b[d.below(16)] = []byte{0, 1, 2, 3, 4, 5, 7, 8, 15, 16, 128, 255}[d.below(12)]
		}
		if read(t, b) {
			right++
		}
		read(t, d.bytes(47))
	}
	if right < 20000 || right > 90000 {
		t.Error("too few, or too many, may be:", right)
	}
}

func TestP4_2_WhatIsHandedInStays(t *testing.T) {
	d := dice(4)
	for range 300 {
		room := append(encoded(d.pointer()), d.bytes(20)...)
		was := slices.Clone(room)
		for _, n := range []int{0, 46, 47, 48} {
			_, f := pointer.Read(room[:n])
			if want := (api.Fault{Err: api.ErrBytes, At: min(n, 47)}); n != 47 && f != want || n == 47 && f != (api.Fault{}) {
				t.Fatalf("%d bytes: %v", n, f)
			}
			if !bytes.Equal(room, was) {
				t.Fatalf("%d bytes: what was handed in is %v, was %v", n, room, was)
			}
		}
	}
}

func TestP4_2_WhatIsToldIsNewMemory(t *testing.T) {
	for _, want := range []api.Pointer{
		example(),
		{Addrs: []api.Addr{at(7, 5)}, Birth: 1},
		{Addrs: []api.Addr{at(7, 5), at(2, 6), at(1, 7)}, Birth: 1},
	} {
		b := encoded(want)
		first, _ := pointer.Read(b)
		second, _ := pointer.Read(b)
		for i := range b { // what was handed in is not looked at later
			b[i] = 99
		}
		spare := first.Addrs[:cap(first.Addrs)]
		if !same(first, want) {
			t.Errorf("a changed argument changes the answer: %v", first)
		}
		for i := range spare {
			spare[i] = at(50, 60)
		}
		if !same(second, want) {
			t.Errorf("two answers share memory: %v", second)
		}
		if third, f := pointer.Read(encoded(want)); f != (api.Fault{}) || !same(third, want) {
			t.Errorf("behind a changed answer: %v, %v", third, f)
		}
	}
}
