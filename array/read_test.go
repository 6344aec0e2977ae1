package array_test

import (
	"math"
	"testing"

	"caulker/api"
)

func TestP15_2_EachSectorTellsItsOwn(t *testing.T) {
	a := made(t, 8, 4096)
	own := func(dev, at int) []byte {
		b := of(byte(dev + 1))
		b[0], b[1], b[255] = byte(at>>8), byte(at), byte(at)^byte(dev)
		return b
	}
	for at := range 4096 {
		for dev := range 8 {
			fine(t, a.Write(dev, at, own(dev, at)))
		}
	}
	counts(t, a, 8*4096, 8*4096)
	all := func() {
		for dev := range 8 {
			for at := range 4096 {
				tells(t, a, dev, at, own(dev, at))
			}
		}
	}
	all()
	for dev := range 8 {
		fine(t, a.Flush(dev))
	}
	counts(t, a, 0, 8*4096+8)
	all()
	fine(t, a.Crash(nil, 0))
	all()
}

func TestP15_2_OutOfRange(t *testing.T) {
	a := made(t, 2, 8)
	fine(t, a.Fail(1, 1))
	for _, dev := range nobody(2) {
		refuses(t, a, dev, 5, api.ErrRange)
	}
	for _, at := range nobody(8) {
		refuses(t, a, 1, at, api.ErrRange)
		refuses(t, a, 0, at, api.ErrRange)
	}
	for _, dev := range nobody(2) {
		for _, at := range nobody(8) {
			refuses(t, a, dev, at, api.ErrRange)
		}
	}
	refuses(t, a, 1, 5, api.ErrIO) // none of those used it up
	tells(t, a, 1, 5, none)
}

func TestP15_2_Failures(t *testing.T) {
	for n := range 6 {
		a := made(t, 2, 8)
		fine(t, a.Write(1, 5, of(1)), a.Fail(1, n))
		for i := range n {
			refuses(t, a, 1, i%8, api.ErrIO)
			tells(t, a, 0, 5, none)
		}
		tells(t, a, 1, 5, of(1))
		tells(t, a, 1, 6, none)
	}
}

func TestP15_2_FailuresAreNotUsedUpByOtherCalls(t *testing.T) {
	a := made(t, 2, 8)
	fine(t, a.Fail(1, 2), a.Write(1, 5, of(1)), a.Flush(1), a.Lose(1), a.Stray(1, 6), a.Spoil(1, 5, 0, 3), a.Fuse(9))
	fine(t, a.Pull(0), a.Fit(0), a.Write(1, 4, of(2)), a.Write(1, 5, of(2)))
	a.Up(1)
	a.Loose()
	a.Peek(1, 5)
	refuses(t, a, 1, 5, api.ErrIO)
	refuses(t, a, 1, 9, api.ErrRange)
	refuses(t, a, 1, 6, api.ErrIO)
	tells(t, a, 1, 6, of(2))
}

func TestP15_2_Gone(t *testing.T) {
	a := made(t, 3, 8)
	fine(t, a.Fail(1, 1), a.Pull(1))
	for at := range 8 {
		refuses(t, a, 1, at, api.ErrGone)
		unseen(t, a, 1, at)
	}
	refuses(t, a, 1, 8, api.ErrRange)
	refuses(t, a, 1, -1, api.ErrRange)
	tells(t, a, 0, 5, none)
	tells(t, a, 2, 5, none)
}

func TestP15_2_Out(t *testing.T) {
	a := made(t, 2, 8)
	fine(t, a.Fail(1, 1), a.Pull(0))
	burn(t, a, 1)
	for _, at := range append(nobody(8), 0, 5, 7) {
		for _, dev := range append(nobody(2), 0, 1) {
			refuses(t, a, dev, at, api.ErrBroken)
		}
	}
}

// Of a fuse that is not burnt yet, and of a device that is about to lose its next write, nothing is read.
func TestP15_2_WhatIsToComeIsNotRead(t *testing.T) {
	a := made(t, 2, 8)
	fine(t, a.Write(0, 5, of(1)), a.Fuse(0), a.Lose(0), a.Stray(0, 5), a.Fail(1, math.MaxInt))
	tells(t, a, 0, 5, of(1))
	for range 100 {
		refuses(t, a, 1, 5, api.ErrIO)
	}
	ups(t, a, true, true)
}
