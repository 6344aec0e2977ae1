package array_test

import (
	"math"
	"testing"

	"caulker/api"
	"caulker/array"
)

func TestP15_1_Bounds(t *testing.T) {
	for _, devs := range []int{2, 3, 4, 5, 6, 7, 8} {
		for _, sectors := range []int{8, 9, 10, 255, 256, 257, 4095, 4096} {
			a := made(t, devs, sectors)
			if a.Devs() != devs || a.Sectors() != sectors {
				t.Errorf("New(%d, %d): %d devices of %d sectors", devs, sectors, a.Devs(), a.Sectors())
			}
			counts(t, a, 0, 0)
			for dev := range devs {
				if !a.Up(dev) {
					t.Errorf("New(%d, %d): %d is not up", devs, sectors, dev)
				}
				tells(t, a, dev, 0, none)
				tells(t, a, dev, sectors-1, none)
				refuses(t, a, dev, sectors, api.ErrRange)
			}
			refuses(t, a, devs, 0, api.ErrRange)
		}
	}
}

func TestP15_1_OutOfBounds(t *testing.T) {
	devs := []int{1, 0, -1, -2, -8, 9, 10, 16, 256 + 2, 65536 + 2, 1<<32 + 2, math.MinInt, math.MinInt + 2, math.MaxInt}
	sectors := []int{7, 0, -1, -8, 4097, 4098, 8192, 65536 + 8, 1<<32 + 8, math.MinInt, math.MinInt + 8, math.MaxInt}
	refused := func(d, s int) {
		if a, e := array.New(d, s); a != nil || e != api.ErrArg {
			t.Errorf("New(%d, %d): %v, %v", d, s, a, e)
		}
	}
	for _, d := range devs {
		for _, s := range append(sectors, 8, 60, 4096) {
			refused(d, s)
		}
	}
	for _, s := range sectors {
		for _, d := range []int{2, 3, 8} {
			refused(d, s)
		}
	}
}

func TestP15_1_NoughtsAtFirst(t *testing.T) {
	for _, size := range [][2]int{{2, 8}, {8, 4096}} {
		a := made(t, size[0], size[1])
		for dev := range size[0] {
			for at := range size[1] {
				tells(t, a, dev, at, none)
			}
		}
	}
}

func TestP15_1_TwoArraysAreApart(t *testing.T) {
	a, b := made(t, 2, 8), made(t, 2, 8)
	fine(t, a.Write(0, 5, of(1)), a.Flush(0), a.Write(0, 6, of(2)), a.Lose(1), a.Fail(1, 1), a.Pull(1))
	counts(t, b, 0, 0)
	for at := range 8 {
		tells(t, b, 0, at, none)
		tells(t, b, 1, at, none)
	}
	fine(t, b.Write(1, 5, of(3)))
	tells(t, b, 1, 5, of(3))
	burn(t, b, 0)
	tells(t, a, 0, 5, of(1))
	ups(t, a, true, false)
	ups(t, b, false, false)
}

func TestP15_1_HowMany(t *testing.T) {
	a := made(t, 3, 9)
	fine(t, a.Write(0, 5, of(1)))
	counts(t, a, 1, 1)
	fine(t, a.Write(0, 5, of(1)))
	counts(t, a, 2, 2)
	fine(t, a.Write(2, 8, of(1)))
	counts(t, a, 3, 3)
	fine(t, a.Flush(1))
	counts(t, a, 3, 4)
	fine(t, a.Flush(0))
	counts(t, a, 1, 5)
	fine(t, a.Flush(0))
	counts(t, a, 1, 6)
	fine(t, a.Lose(0), a.Write(0, 1, of(1)))
	counts(t, a, 1, 7)
	fine(t, a.Stray(0, 1), a.Write(0, 2, of(1)))
	counts(t, a, 2, 8)
	fine(t, a.Spoil(0, 1, 0, 1), a.Fail(0, 1), a.Fuse(9), a.Stray(0, 3), a.Lose(0))
	tells(t, a, 2, 8, of(1))
	refuses(t, a, 0, 1, api.ErrIO)
	counts(t, a, 2, 8)
	errs(t, api.ErrRange, a.Write(0, 9, of(1)), a.Write(3, 0, of(1)), a.Flush(3))
	errs(t, api.ErrArg, a.Write(0, 0, nil))
	counts(t, a, 2, 8)
	fine(t, a.Pull(0))
	counts(t, a, 1, 8)
	errs(t, api.ErrGone, a.Write(0, 1, of(1)), a.Flush(0))
	counts(t, a, 1, 8)
	fine(t, a.Fit(0))
	counts(t, a, 1, 8)
	fine(t, a.Fit(2))
	counts(t, a, 0, 8)
	fine(t, a.Write(0, 0, of(1)), a.Write(0, 1, of(1)))
	burn(t, a, 0)
	errs(t, api.ErrBroken, a.Write(0, 1, of(1)))
	counts(t, a, 2, 10)
	fine(t, a.Crash([]bool{true}, 0))
	counts(t, a, 0, 10)
	if a.Devs() != 3 || a.Sectors() != 9 {
		t.Error(a.Devs(), a.Sectors())
	}
}

func TestP15_1_Up(t *testing.T) {
	a := made(t, 3, 8)
	ups(t, a, true, true, true)
	for _, dev := range nobody(3) {
		if a.Up(dev) {
			t.Error("up is", dev)
		}
	}
	fine(t, a.Pull(1), a.Fail(0, 9), a.Lose(0), a.Stray(0, 1))
	ups(t, a, true, false, true)
	burn(t, a, 2)
	ups(t, a, false, false, false)
	fine(t, a.Fit(1))
	ups(t, a, false, false, false)
	fine(t, a.Crash(nil, 0))
	ups(t, a, true, true, true)
	fine(t, a.Pull(2), a.Crash(nil, 0))
	ups(t, a, true, true, false)
	fine(t, a.Fit(2))
	ups(t, a, true, true, true)
}

func TestP15_1_Peek(t *testing.T) {
	a := made(t, 2, 8)
	fine(t, a.Write(1, 7, of(1)), a.Flush(1), a.Write(1, 6, rising()), a.Write(1, 6, of(2)), a.Fail(1, 2))
	for range 3 {
		for at, want := range map[int][]byte{5: none, 6: of(2), 7: of(1)} {
			if b, is := a.Peek(1, at); !is || string(b) != string(want) {
				t.Errorf("Peek(1, %d): %s, %t", at, text(b), is)
			}
		}
	}
	refuses(t, a, 1, 6, api.ErrIO)
	refuses(t, a, 1, 6, api.ErrIO)
	tells(t, a, 1, 6, of(2))
	for _, dev := range nobody(2) {
		unseen(t, a, dev, 6)
	}
	for _, at := range nobody(8) {
		unseen(t, a, 1, at)
	}
	fine(t, a.Pull(0))
	unseen(t, a, 0, 6)
	tells(t, a, 1, 6, of(2))
	burn(t, a, 1)
	unseen(t, a, 1, 6)
	fine(t, a.Crash([]bool{true}, 0))
	tells(t, a, 1, 6, rising())
	unseen(t, a, 0, 6)
}

// nil arrays, such as New did not make, and copies of one that it did.
func TestP15_1_ArraysThatNewDidNotMake(t *testing.T) {
	proper := made(t, 2, 8)
	fine(t, proper.Write(0, 5, of(1)))
	copied := *proper
	for what, a := range map[string]*array.Array{"nil": nil, "zero": {}, "new": new(array.Array), "copy": &copied} {
		for _, n := range append(nobody(2), 0, 1) {
			for _, name := range names() {
				for _, b := range [][]byte{nil, rising()} {
					c := call{name: name, dev: n, at: n, n: n, mask: 1, b: b, keep: []bool{true}}
					if b, e := c.do(a); e != api.ErrNil || len(b) != 0 {
						t.Fatalf("%s: %v: %v, %v", what, c, b, e)
					}
				}
			}
			unseen(t, a, n, n)
			if a.Up(n) || a.Devs() != 0 || a.Sectors() != 0 || a.Loose() != 0 || a.Steps() != 0 {
				t.Fatalf("%s: Up(%d) %t, Devs %d, Sectors %d, Loose %d, Steps %d", what, n, a.Up(n), a.Devs(), a.Sectors(), a.Loose(), a.Steps())
			}
		}
	}
	tells(t, proper, 0, 5, of(1))
	counts(t, proper, 1, 1)
	ups(t, proper, true, true)
}
