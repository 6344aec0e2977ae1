package mirror_test

import (
	"bytes"
	"crypto/sha256"
	"fmt"
	"math"
	"slices"
	"testing"

	"caulker/api"
	"caulker/array"
	"caulker/mirror"
)

// dice is a row of numbers that looks like chance and is the same in each run.
type dice uint64

func (d *dice) below(n int) int {
	*d = *d*6364136223846793005 + 1442695040888963407
	return int(uint64(*d) >> 33 % uint64(n))
}

func (d *dice) bools(n int) []bool {
	l := make([]bool, n)
	for i := range l {
		l[i] = d.below(2) == 0
	}
	return l
}

func at(dev, sector int) api.Addr { return api.Addr{Dev: dev, At: sector} }

// of is a sector of the same bytes; none is one of noughts.
func of(b byte) []byte { return bytes.Repeat([]byte{b}, 256) }

var none = make([]byte, 256)

// rising is a sector in which no two bytes are the same.
func rising() []byte {
	b := make([]byte, 256)
	for i := range b {
		b[i] = byte(i + 1)
	}
	return b
}

// changed is a sector with one byte xored.
func changed(b []byte, place int, mask byte) []byte {
	b = bytes.Clone(b)
	b[place] ^= mask
	return b
}

// to is a pointer to bytes that lie there.
func to(b []byte, addrs ...api.Addr) api.Pointer {
	return api.Pointer{Addrs: addrs, Birth: 1, Sum: sha256.Sum256(b)}
}

func made(t testing.TB, devs, sectors int) (*array.Array, *mirror.Mirror) {
	t.Helper()
	a, e := array.New(devs, sectors)
	if e != api.OK {
		t.Fatalf("array.New(%d, %d): %v", devs, sectors, e)
	}
	return a, over(t, a)
}

func over(t testing.TB, a *array.Array) *mirror.Mirror {
	t.Helper()
	m, e := mirror.New(a)
	if e != api.OK || m == nil {
		t.Fatalf("New: %v, %v", m, e)
	}
	return m
}

// fine demands that calls answer OK.
func fine(t testing.TB, l ...api.Errno) {
	t.Helper()
	errs(t, api.OK, l...)
}

// errs demands that calls answer an error.
func errs(t testing.TB, want api.Errno, l ...api.Errno) {
	t.Helper()
	for i, e := range l {
		if e != want {
			t.Fatalf("call %d: %v, want %v", i, e, want)
		}
	}
}

func puts(t testing.TB, m *mirror.Mirror, b []byte, want int, addrs ...api.Addr) {
	t.Helper()
	if n, e := m.Put(addrs, b); n != want || e != api.OK {
		t.Fatalf("Put to %v: %d, %v; want %d", addrs, n, e, want)
	}
}

// noPut demands that Put answers an error.
func noPut(t testing.TB, m *mirror.Mirror, b []byte, want api.Errno, addrs ...api.Addr) {
	t.Helper()
	if n, e := m.Put(addrs, b); n != 0 || e != want {
		t.Fatalf("Put of %s to %v: %d, %v; want %v", text(b), addrs, n, e, want)
	}
}

// flushes demands Flush's answer: with an error 0.
func flushes(t testing.TB, m *mirror.Mirror, want int, err api.Errno) {
	t.Helper()
	if n, e := m.Flush(); n != want || e != err {
		t.Fatalf("Flush: %d, %v; want %d, %v", n, e, want, err)
	}
}

// gets demands that a block is got.
func gets(t testing.TB, m *mirror.Mirror, p api.Pointer, want []byte) {
	t.Helper()
	if b, e := m.Get(p); e != api.OK || !bytes.Equal(b, want) {
		t.Fatalf("Get(%v): %s, %v; want %s", p.Addrs, text(b), e, text(want))
	}
}

// noGet demands that Get answers an error.
func noGet(t testing.TB, m *mirror.Mirror, p api.Pointer, want api.Errno) {
	t.Helper()
	if b, e := m.Get(p); e != want || len(b) != 0 {
		t.Fatalf("Get(%v): %s, %v; want %v", p, text(b), e, want)
	}
}

func scans(t testing.TB, m *mirror.Mirror, p api.Pointer, want api.Scan) {
	t.Helper()
	if s, e := m.Scan(p); e != api.OK || s != want {
		t.Fatalf("Scan(%v): %+v, %v; want %+v", p.Addrs, s, e, want)
	}
}

// noScan demands that Scan answers an error.
func noScan(t testing.TB, m *mirror.Mirror, p api.Pointer, want api.Errno) {
	t.Helper()
	if s, e := m.Scan(p); e != want || s != (api.Scan{}) {
		t.Fatalf("Scan(%v): %+v, %v; want %v", p, s, e, want)
	}
}

// counted demands the errors of the devices, from 0 on, and that all others have none.
func counted(t testing.TB, what string, m *mirror.Mirror, want ...api.Errors) {
	t.Helper()
	for dev := range 8 {
		w := append(want, make([]api.Errors, 8)...)[dev]
		if got := m.Errors(dev); got != w {
			t.Fatalf("%s: Errors(%d): %+v, want %+v", what, dev, got, w)
		}
	}
}

// image is what all sectors of an array tell; a device that is not up has none.
func image(a *array.Array) [][][]byte {
	l := make([][][]byte, a.Devs())
	for dev := range l {
		for at := range a.Sectors() {
			if b, is := a.Peek(dev, at); is {
				l[dev] = append(l[dev], b)
			}
		}
	}
	return l
}

// looks demands that an array looks as an image.
func looks(t testing.TB, what string, a *array.Array, want [][][]byte) {
	t.Helper()
	for dev, l := range image(a) {
		if len(l) != len(want[dev]) {
			t.Fatalf("%s: %d has %d sectors, want %d", what, dev, len(l), len(want[dev]))
		}
		for at, b := range l {
			if !bytes.Equal(b, want[dev][at]) {
				t.Fatalf("%s: %d.%d tells %s, want %s", what, dev, at, text(b), text(want[dev][at]))
			}
		}
	}
}

// tells demands what a sector tells, without a read.
func tells(t testing.TB, a *array.Array, p api.Addr, want []byte) {
	t.Helper()
	if b, is := a.Peek(p.Dev, p.At); !is || !bytes.Equal(b, want) {
		t.Fatalf("%v tells %s, %t; want %s", p, text(b), is, text(want))
	}
}

// burn lets an array go out: none of its devices may be gone.
func burn(t testing.TB, a *array.Array) {
	t.Helper()
	fine(t, a.Fuse(0))
	errs(t, api.ErrBroken, a.Flush(0))
}

// all keeps all loose writes through a crash.
func all(t testing.TB, a *array.Array) {
	t.Helper()
	fine(t, a.Crash(slices.Repeat([]bool{true}, a.Loose()), 0))
}

// text is a sector's bytes as runs: each one and how often it comes in a row.
func text(b []byte) string {
	s := fmt.Sprint(len(b), " bytes:")
	for i, shown := 0, 0; i < len(b) && shown < 6; shown++ {
		n := 1
		for i+n < len(b) && b[i+n] == b[i] {
			n++
		}
		s += fmt.Sprint(" ", b[i], "*", n)
		i += n
	}
	return s
}

// nobody are numbers of none of n things.
func nobody(n int) []int {
	return []int{-1, n, -2, n + 1, -n, 2 * n, n + 255, n + 256, n + 65536, -256, 1 << 31, 1 << 32, 1<<32 + n - 1, -1 << 31, -1 << 32, 1<<40 + 1, math.MinInt, math.MinInt + 1, math.MaxInt - 1, math.MaxInt}
}

// nowhere are lists of addresses at which an array of three devices of eight sectors can't have a block.
func nowhere() [][]api.Addr {
	l := [][]api.Addr{
		nil,
		{},
		{at(0, 5), at(0, 5)},
		{at(0, 5), at(0, 6)},
		{at(2, 7), at(1, 6), at(2, 7)},
		{at(2, 7), at(1, 6), at(1, 5)},
		{at(2, 7), at(2, 6), at(1, 5)},
		{at(0, 5), at(1, 5), at(2, 5), at(0, 6)},
		{at(0, 5), at(1, 5), at(2, 5), at(3, 5)},
		make([]api.Addr, 300),
		slices.Repeat([]api.Addr{at(0, 5)}, 257),
	}
	for i := range 3 {
		wrong := func(dev, sector int) {
			three := []api.Addr{at(0, 5), at(1, 6), at(2, 7)}
			three[i] = at(dev, sector)
			l = append(l, three, []api.Addr{at(dev, sector)}, append(three[:i:i], at(dev, sector)))
		}
		for _, dev := range append(nobody(3), 4, 5, 6, 7) {
			wrong(dev, 5+i)
		}
		for _, sector := range append(nobody(8), 0, 1, 4, 9, 4095, 4096) {
			wrong(i, sector)
		}
	}
	return l
}
