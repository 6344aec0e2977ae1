package array_test

import (
	"math"
	"testing"

	"caulker/api"
)

func TestP15_3_Examples(t *testing.T) {
	a, b, c := of(1), of(2), made(t, 2, 8)
	fine(t, c.Write(0, 5, a))
	tells(t, c, 0, 5, a)
	fine(t, c.Crash(nil, 0))
	tells(t, c, 0, 5, none)

	fine(t, c.Write(0, 5, a), c.Flush(0), c.Lose(0), c.Write(0, 5, b))
	tells(t, c, 0, 5, a)
	fine(t, c.Write(0, 5, b))
	tells(t, c, 0, 5, b)

	fine(t, c.Stray(1, 6), c.Write(1, 5, a))
	tells(t, c, 1, 5, none)
	tells(t, c, 1, 6, a)
	fine(t, c.Fail(1, 1))
	refuses(t, c, 1, 6, api.ErrIO)
	tells(t, c, 1, 6, a)

	c = made(t, 2, 8)
	fine(t, c.Fuse(1), c.Write(0, 7, b))
	errs(t, api.ErrBroken, c.Flush(0))
	ups(t, c, false, false)
	fine(t, c.Crash([]bool{true}, 0))
	tells(t, c, 0, 7, b)

	fine(t, c.Pull(0))
	refuses(t, c, 0, 5, api.ErrGone)
	fine(t, c.Fit(0))
	tells(t, c, 0, 5, none)
	errs(t, api.ErrRange, c.Write(1, 8, a))
	errs(t, api.ErrArg, c.Write(1, 7, nil))

	fine(t, c.Write(1, 5, a), c.Write(1, 6, a), c.Crash([]bool{false, true}, 3))
	tells(t, c, 1, 5, joined(a, none, 3))
	tells(t, c, 1, 6, a)
}

func TestP15_3_WrongBytes(t *testing.T) {
	a := made(t, 2, 8)
	fine(t, a.Lose(0), a.Stray(1, 3), a.Fuse(2))
	long := make([]byte, 1024)
	for n := range long {
		if n == 256 {
			continue
		}
		errs(t, api.ErrArg, a.Write(0, 5, long[:n]), a.Write(1, 7, long[:n]))
		errs(t, api.ErrRange, a.Write(0, 8, long[:n]), a.Write(2, 7, long[:n]), a.Write(-1, 7, long[:n]))
	}
	errs(t, api.ErrArg, a.Write(1, 5, nil), a.Write(0, 5, make([]byte, 1<<20)), a.Write(0, 5, make([]byte, 1<<16+256)))
	counts(t, a, 0, 0)
	fine(t, a.Write(0, 5, of(1)), a.Write(1, 5, of(1))) // neither the faults nor the fuse was used up
	tells(t, a, 0, 5, none)
	tells(t, a, 1, 3, of(1))
	counts(t, a, 1, 2)
}

func TestP15_3_OutOfRange(t *testing.T) {
	a := made(t, 2, 8)
	for _, dev := range nobody(2) {
		errs(t, api.ErrRange, a.Write(dev, 5, of(1)), a.Flush(dev))
	}
	for _, at := range nobody(8) {
		errs(t, api.ErrRange, a.Write(0, at, of(1)), a.Write(1, at, of(1)))
	}
	counts(t, a, 0, 0)
}

func TestP15_3_TheLastLooseWriteIsTold(t *testing.T) {
	a := made(t, 2, 8)
	for i := range 20 {
		fine(t, a.Write(i%2, 5, of(byte(i+1))), a.Write(i%2, 6, of(byte(100+i))))
		tells(t, a, i%2, 5, of(byte(i+1)))
		tells(t, a, i%2, 6, of(byte(100+i)))
		if i%3 == 0 {
			fine(t, a.Flush(i%4/2))
		}
	}
	tells(t, a, 0, 5, of(19))
	tells(t, a, 1, 5, of(20))
	fine(t, a.Flush(0))
	tells(t, a, 0, 5, of(19))
	fine(t, a.Crash(nil, 0))
	tells(t, a, 0, 5, of(19))
	tells(t, a, 0, 6, of(118))
}

func TestP15_3_FlushIsOfOneDevice(t *testing.T) {
	for dev := range 3 {
		a := made(t, 3, 8)
		for d := range 3 {
			fine(t, a.Write(d, 5, of(byte(d+1))), a.Write(d, 5, of(byte(d+11))), a.Write(d, 6, of(byte(d+21))))
		}
		fine(t, a.Flush(dev))
		counts(t, a, 6, 10)
		fine(t, a.Crash(nil, 0))
		for d := range 3 {
			if d == dev {
				tells(t, a, d, 5, of(byte(d+11)))
				tells(t, a, d, 6, of(byte(d+21)))
			} else {
				tells(t, a, d, 5, none)
				tells(t, a, d, 6, none)
			}
		}
	}
}

// What stays loose behind a flush stays in its order, ahead of what is laid then: a crash counts it so.
func TestP15_3_TheRowKeepsItsOrder(t *testing.T) {
	for keep := range 8 {
		a := made(t, 2, 8)
		fine(t, a.Write(0, 1, of(1)), a.Write(1, 1, of(2)), a.Write(0, 2, of(3)), a.Write(1, 2, of(4)), a.Write(0, 3, of(5)), a.Flush(0), a.Write(0, 1, of(6)))
		counts(t, a, 3, 7) // 1.1 1.2 0.1
		kept := []bool{keep&1 > 0, keep&2 > 0, keep&4 > 0}
		fine(t, a.Crash(kept, 0))
		want := func(is bool, b, other []byte) []byte {
			if is {
				return b
			}
			return other
		}
		tells(t, a, 1, 1, want(kept[0], of(2), none))
		tells(t, a, 1, 2, want(kept[1], of(4), none))
		tells(t, a, 0, 1, want(kept[2], of(6), of(1)))
		tells(t, a, 0, 2, of(3))
		tells(t, a, 0, 3, of(5))
	}
}

func TestP15_3_ALossIsOfOneWrite(t *testing.T) {
	a := made(t, 2, 8)
	fine(t, a.Lose(0), a.Lose(0), a.Lose(0)) // it has it once
	tells(t, a, 0, 5, none)
	fine(t, a.Flush(0), a.Write(1, 5, of(1)))
	tells(t, a, 1, 5, of(1))
	fine(t, a.Write(0, 5, of(2)))
	tells(t, a, 0, 5, none)
	counts(t, a, 1, 3)
	fine(t, a.Write(0, 5, of(3)))
	tells(t, a, 0, 5, of(3))
	fine(t, a.Lose(0), a.Write(0, 5, of(4)), a.Flush(0), a.Crash(nil, 0))
	tells(t, a, 0, 5, of(3))
}

func TestP15_3_AStrayIsOfOneWrite(t *testing.T) {
	a := made(t, 2, 8)
	fine(t, a.Stray(0, 0), a.Stray(0, 7), a.Stray(0, 3), a.Write(1, 1, of(9))) // the last one counts
	fine(t, a.Write(0, 5, of(1)))
	for at := range 8 {
		want := none
		if at == 3 {
			want = of(1)
		}
		tells(t, a, 0, at, want)
	}
	tells(t, a, 1, 1, of(9))
	fine(t, a.Write(0, 5, of(2)))
	tells(t, a, 0, 5, of(2))
	tells(t, a, 0, 3, of(1))
	fine(t, a.Stray(0, 5), a.Write(0, 5, of(3)), a.Write(0, 4, of(4))) // to where it goes
	tells(t, a, 0, 5, of(3))
	tells(t, a, 0, 4, of(4))
	fine(t, a.Stray(0, 0), a.Write(0, 7, of(5)), a.Stray(0, 7), a.Write(0, 0, of(6)), a.Flush(0), a.Crash(nil, 0))
	tells(t, a, 0, 0, of(5))
	tells(t, a, 0, 7, of(6))
	tells(t, a, 0, 3, of(1))
}

func TestP15_3_AWriteThatIsLostDoesNotStray(t *testing.T) {
	for _, lossFirst := range []bool{true, false} {
		a := made(t, 2, 8)
		if lossFirst {
			fine(t, a.Lose(1), a.Stray(1, 2))
		} else {
			fine(t, a.Stray(1, 2), a.Lose(1))
		}
		fine(t, a.Write(1, 5, of(1)))
		counts(t, a, 0, 1)
		tells(t, a, 1, 2, none)
		fine(t, a.Lose(1), a.Write(1, 5, of(2)))
		counts(t, a, 0, 2)
		fine(t, a.Write(1, 5, of(3)))
		tells(t, a, 1, 2, of(3))
		tells(t, a, 1, 5, none)
		fine(t, a.Write(1, 5, of(4)))
		tells(t, a, 1, 2, of(3))
		tells(t, a, 1, 5, of(4))
	}
}

// What strays is laid over what was there, and is the last one there.
func TestP15_3_AStrayOverAnotherWrite(t *testing.T) {
	a := made(t, 2, 8)
	fine(t, a.Write(0, 6, of(1)), a.Stray(0, 6), a.Write(0, 5, of(2)))
	tells(t, a, 0, 6, of(2))
	fine(t, a.Crash([]bool{true, false}, 0))
	tells(t, a, 0, 6, of(1))
	fine(t, a.Stray(0, 6), a.Write(0, 5, of(2)), a.Write(0, 6, of(3)), a.Flush(0))
	tells(t, a, 0, 6, of(3))
	tells(t, a, 0, 5, none)
}

func TestP15_3_TheFuse(t *testing.T) {
	for n := range 7 {
		for last := range 2 { // whether a write, or a flush, is one too many
			a := made(t, 2, 8)
			fine(t, a.Write(0, 1, of(1)), a.Fuse(n))
			for i := range n {
				switch i % 3 {
				case 0:
					fine(t, a.Lose(1), a.Write(1, 7, of(7))) // a write that is lost is a step
				case 1:
					fine(t, a.Flush(1))
				default:
					fine(t, a.Write(1, 2+i, of(byte(i))))
				}
				ups(t, a, true, true)
			}
			fine(t, a.Lose(0), a.Stray(0, 3))
			loose := a.Loose()
			if last == 0 {
				errs(t, api.ErrBroken, a.Write(0, 4, of(4)))
			} else {
				errs(t, api.ErrBroken, a.Flush(0))
			}
			counts(t, a, loose, 1+n)
			ups(t, a, false, false)
			errs(t, api.ErrBroken, a.Write(1, 4, of(4)), a.Flush(1), a.Write(9, 9, nil), a.Flush(-1), a.Fuse(5), a.Fuse(-5))
			counts(t, a, loose, 1+n)
			fine(t, a.Crash(nil, 0))
			tells(t, a, 0, 1, none) // it was loose, and is not flushed
			tells(t, a, 0, 4, none)
		}
	}
}

func TestP15_3_WhatIsRefusedBurnsNoFuse(t *testing.T) {
	a := made(t, 3, 8)
	fine(t, a.Pull(2), a.Fuse(1))
	errs(t, api.ErrRange, a.Write(0, 8, of(1)), a.Write(3, 0, of(1)), a.Flush(3), a.Flush(-1))
	errs(t, api.ErrArg, a.Write(0, 5, nil))
	errs(t, api.ErrGone, a.Write(2, 5, of(1)), a.Flush(2))
	ups(t, a, true, true, false)
	fine(t, a.Write(0, 5, of(1)))
	errs(t, api.ErrRange, a.Write(0, 8, of(1)), a.Flush(3))
	errs(t, api.ErrArg, a.Write(0, 5, nil))
	errs(t, api.ErrGone, a.Write(2, 5, of(1)), a.Flush(2))
	tells(t, a, 0, 5, of(1))
	ups(t, a, true, true, false)
	errs(t, api.ErrBroken, a.Flush(0))
	ups(t, a, false, false, false)
}

func TestP15_3_Gone(t *testing.T) {
	a := made(t, 2, 8)
	fine(t, a.Write(0, 5, of(1)), a.Write(1, 5, of(2)), a.Pull(1))
	errs(t, api.ErrGone, a.Write(1, 5, of(3)), a.Flush(1))
	errs(t, api.ErrArg, a.Write(1, 5, of(3)[1:]))
	errs(t, api.ErrRange, a.Write(1, 8, of(3)))
	counts(t, a, 1, 2)
	fine(t, a.Flush(0), a.Fit(1), a.Write(1, 6, of(4)), a.Flush(1), a.Crash(nil, 0))
	tells(t, a, 0, 5, of(1))
	tells(t, a, 1, 5, none)
	tells(t, a, 1, 6, of(4))
}

func TestP15_3_ManySteps(t *testing.T) {
	a := made(t, 2, 8)
	fine(t, a.Fuse(math.MaxInt))
	for i := range 30000 {
		fine(t, a.Write(i%2, i%7, of(byte(i))))
		if i%100 == 99 {
			fine(t, a.Flush(i/100%2))
		}
	}
	counts(t, a, 100/2, 30300)
	ups(t, a, true, true)
}
