package array_test

import (
	"bytes"
	"fmt"
	"math"
	"slices"
	"testing"

	"caulker/api"
	"caulker/array"
)

// dice is a row of numbers that looks like chance and is the same in each run.
type dice uint64

func (d *dice) below(n int) int {
	*d = *d*6364136223846793005 + 1442695040888963407
	return int(uint64(*d) >> 33 % uint64(n))
}

func (d *dice) bytes(n int) []byte {
	b := make([]byte, n)
	for i := range b {
		b[i] = byte(d.below(256))
	}
	return b
}

func (d *dice) bools(n int) []bool {
	l := make([]bool, n)
	for i := range l {
		l[i] = d.below(2) == 0
	}
	return l
}

// of is a sector of the same bytes; none is one of noughts.
func of(b byte) []byte { return bytes.Repeat([]byte{b}, 256) }

var none = make([]byte, 256)

// rising is a sector in which no two bytes are the same.
func rising() []byte {
	b := make([]byte, 256)
	for i := range b {
		b[i] = byte(i + 1)
	}
	return b
}

// joined is a sector whose first n bytes are a's and the others b's.
func joined(a, b []byte, n int) []byte { return slices.Concat(a[:n], b[n:]) }

func made(t testing.TB, devs, sectors int) *array.Array {
	t.Helper()
	a, e := array.New(devs, sectors)
	if e != api.OK || a == nil {
		t.Fatalf("New(%d, %d): %v, %v", devs, sectors, a, e)
	}
	return a
}

// fine demands that calls answer OK.
func fine(t testing.TB, l ...api.Errno) {
	t.Helper()
	for i, e := range l {
		if e != api.OK {
			t.Fatalf("call %d: %v", i, e)
		}
	}
}

// errs demands that calls answer an error.
func errs(t testing.TB, want api.Errno, l ...api.Errno) {
	t.Helper()
	for i, e := range l {
		if e != want {
			t.Fatalf("call %d: %v, want %v", i, e, want)
		}
	}
}

// tells demands what a sector tells, by Peek and by Read.
func tells(t testing.TB, a *array.Array, dev, at int, want []byte) {
	t.Helper()
	if b, is := a.Peek(dev, at); !is || !bytes.Equal(b, want) {
		t.Fatalf("Peek(%d, %d): %s, %t; want %s", dev, at, text(b), is, text(want))
	}
	if b, e := a.Read(dev, at); e != api.OK || !bytes.Equal(b, want) {
		t.Fatalf("Read(%d, %d): %s, %v; want %s", dev, at, text(b), e, text(want))
	}
}

// refuses demands that a read answers an error.
func refuses(t testing.TB, a *array.Array, dev, at int, want api.Errno) {
	t.Helper()
	if b, e := a.Read(dev, at); e != want || len(b) != 0 {
		t.Fatalf("Read(%d, %d): %s, %v; want %v", dev, at, text(b), e, want)
	}
}

// unseen demands that nothing can be peeked at.
func unseen(t testing.TB, a *array.Array, dev, at int) {
	t.Helper()
	if b, is := a.Peek(dev, at); is || len(b) != 0 {
		t.Fatalf("Peek(%d, %d): %s, %t", dev, at, text(b), is)
	}
}

// counts demands how many loose writes there are, and steps.
func counts(t testing.TB, a *array.Array, loose, steps int) {
	t.Helper()
	if a.Loose() != loose || a.Steps() != steps {
		t.Fatalf("Loose %d, Steps %d; want %d, %d", a.Loose(), a.Steps(), loose, steps)
	}
}

// ups demands which devices are up.
func ups(t testing.TB, a *array.Array, want ...bool) {
	t.Helper()
	for dev, w := range want {
		if a.Up(dev) != w {
			t.Fatalf("Up(%d): %t", dev, !w)
		}
	}
}

// burn lets an array go out.
func burn(t testing.TB, a *array.Array, dev int) {
	t.Helper()
	fine(t, a.Fuse(0))
	errs(t, api.ErrBroken, a.Flush(dev))
}

// text is a sector's bytes as runs: each one and how often it comes in a row.
func text(b []byte) string {
	s := fmt.Sprint(len(b), " bytes:")
	for i, shown := 0, 0; i < len(b) && shown < 6; shown++ {
		n := 1
		for i+n < len(b) && b[i+n] == b[i] {
			n++
		}
		s += fmt.Sprint(" ", b[i], "*", n)
		i += n
	}
	return s
}

// nobody are numbers of none of n things.
func nobody(n int) []int {
	return []int{-1, n, -2, n + 1, -n, 2 * n, n + 255, n + 256, n + 65536, -256, 1 << 31, 1 << 32, 1<<32 + n - 1, -1 << 31, -1 << 32, 1<<40 + 1, math.MinInt, math.MinInt + 1, math.MaxInt - 1, math.MaxInt}
}
