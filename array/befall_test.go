package array_test

import (
	"bytes"
	"math"
	"testing"

	"caulker/api"
)

func TestP15_5_Spoil(t *testing.T) {
	for place := range 256 {
		for _, mask := range []byte{0, 1, 2, 128, 255} {
			a := made(t, 2, 8)
			fine(t, a.Write(1, 6, rising()), a.Flush(1), a.Spoil(1, 6, place, mask))
			want := rising()
			want[place] ^= mask
			tells(t, a, 1, 6, want)
			tells(t, a, 0, 6, none)
			tells(t, a, 1, 5, none)
			tells(t, a, 1, 7, none)
			fine(t, a.Spoil(1, 6, place, mask))
			tells(t, a, 1, 6, rising())
		}
	}
}

// Spoil is of what is firm: a loose write there is told as it was laid, and stands over it once it is firm.
func TestP15_5_SpoilUnderALooseWrite(t *testing.T) {
	a := made(t, 2, 8)
	fine(t, a.Write(0, 5, of(1)), a.Flush(0), a.Write(0, 5, of(2)), a.Spoil(0, 5, 200, 7))
	tells(t, a, 0, 5, of(2))
	spoiled := of(1)
	spoiled[200] = 6
	fine(t, a.Crash(nil, 3))
	tells(t, a, 0, 5, joined(of(2), spoiled, 3))
	fine(t, a.Write(0, 5, of(3)), a.Spoil(0, 5, 0, 255), a.Flush(0))
	tells(t, a, 0, 5, of(3))
	fine(t, a.Spoil(0, 5, 255, 8))
	tells(t, a, 0, 5, joined(of(3), of(3^8), 255))
}

func TestP15_5_SpoilOutOfRange(t *testing.T) {
	a := made(t, 2, 8)
	for _, x := range nobody(256) {
		errs(t, api.ErrRange, a.Spoil(0, 5, x, 1))
	}
	for _, x := range nobody(8) {
		errs(t, api.ErrRange, a.Spoil(0, x, 0, 1), a.Spoil(0, x, 256, 1))
	}
	for _, x := range nobody(2) {
		errs(t, api.ErrRange, a.Spoil(x, 5, 0, 1), a.Spoil(x, 8, -1, 0))
	}
	for dev := range 2 {
		for at := range 8 {
			tells(t, a, dev, at, none)
		}
	}
	fine(t, a.Pull(0))
	errs(t, api.ErrRange, a.Spoil(0, 8, 0, 1), a.Spoil(0, 5, 256, 1), a.Spoil(0, -1, 0, 1), a.Spoil(0, 5, -1, 1))
	errs(t, api.ErrGone, a.Spoil(0, 5, 0, 1), a.Spoil(0, 7, 255, 0))
	fine(t, a.Spoil(1, 7, 255, 1), a.Fit(0))
	tells(t, a, 0, 5, none)
	tells(t, a, 0, 7, none)
}

func TestP15_5_WrongArguments(t *testing.T) {
	a := made(t, 2, 8)
	for _, x := range nobody(2) {
		errs(t, api.ErrRange, a.Lose(x), a.Stray(x, 5), a.Fail(x, 1), a.Fail(x, -1), a.Pull(x), a.Fit(x))
	}
	for _, x := range nobody(8) {
		errs(t, api.ErrRange, a.Stray(0, x), a.Stray(1, x))
	}
	for _, n := range []int{-1, -2, -256, -1 << 32, math.MinInt} {
		errs(t, api.ErrArg, a.Fail(0, n))
	}
	fine(t, a.Write(0, 5, of(1)))
	tells(t, a, 0, 5, of(1)) // neither lost nor strayed, nor is reading it refused
	ups(t, a, true, true)
	fine(t, a.Fail(0, 1))
	errs(t, api.ErrArg, a.Fail(0, -1)) // those that it has stay
	refuses(t, a, 0, 5, api.ErrIO)
	tells(t, a, 0, 5, of(1))
	fine(t, a.Stray(0, 3))
	errs(t, api.ErrRange, a.Stray(0, 8))
	fine(t, a.Write(0, 6, of(2)))
	tells(t, a, 0, 3, of(2))
}

func TestP15_5_Gone(t *testing.T) {
	a := made(t, 2, 8)
	fine(t, a.Pull(0))
	errs(t, api.ErrGone, a.Lose(0), a.Stray(0, 5), a.Fail(0, 1), a.Fail(0, 0), a.Pull(0), a.Spoil(0, 5, 0, 1))
	errs(t, api.ErrRange, a.Stray(0, 8), a.Stray(0, -1))
	errs(t, api.ErrArg, a.Fail(0, -1))
	fine(t, a.Fit(0))
	ups(t, a, true, true)
	tells(t, a, 0, 5, none)
	fine(t, a.Write(0, 5, of(1)))
	tells(t, a, 0, 5, of(1))
}

func TestP15_5_FailuresOfLaterCount(t *testing.T) {
	a := made(t, 2, 8)
	fine(t, a.Fail(0, 5), a.Fail(0, 2))
	refuses(t, a, 0, 5, api.ErrIO)
	refuses(t, a, 0, 5, api.ErrIO)
	tells(t, a, 0, 5, none)
	fine(t, a.Fail(0, 1), a.Fail(0, 3))
	for range 3 {
		refuses(t, a, 0, 5, api.ErrIO)
	}
	tells(t, a, 0, 5, none)
	fine(t, a.Fail(0, math.MaxInt), a.Fail(0, 0))
	tells(t, a, 0, 5, none)
	fine(t, a.Fail(0, 2), a.Fail(1, 1))
	refuses(t, a, 1, 5, api.ErrIO)
	tells(t, a, 1, 5, none)
	refuses(t, a, 0, 5, api.ErrIO)
	refuses(t, a, 0, 5, api.ErrIO)
	tells(t, a, 0, 5, none)
}

func TestP15_5_Pull(t *testing.T) {
	a := made(t, 3, 8)
	for dev := range 3 {
		fine(t, a.Write(dev, 5, of(byte(dev+1))), a.Flush(dev), a.Write(dev, 6, of(byte(dev+11))))
	}
	fine(t, a.Pull(1))
	counts(t, a, 2, 9)
	ups(t, a, true, false, true)
	for _, dev := range []int{0, 2} {
		tells(t, a, dev, 5, of(byte(dev+1)))
		tells(t, a, dev, 6, of(byte(dev+11)))
	}
	errs(t, api.ErrGone, a.Pull(1))
	fine(t, a.Pull(2), a.Pull(0))
	ups(t, a, false, false, false)
	counts(t, a, 0, 9)
	if a.Devs() != 3 || a.Sectors() != 8 {
		t.Error(a.Devs(), a.Sectors())
	}
	errs(t, api.ErrGone, a.Flush(0), a.Flush(1), a.Flush(2))
}

func TestP15_5_Fit(t *testing.T) {
	for _, pulled := range []bool{true, false} { // there may be one in its place
		a := made(t, 3, 8)
		for dev := range 3 {
			fine(t, a.Write(dev, 5, of(byte(dev+1))), a.Flush(dev), a.Write(dev, 6, of(byte(dev+11))), a.Lose(dev), a.Stray(dev, 2), a.Fail(dev, 2))
		}
		if pulled {
			fine(t, a.Pull(1))
		}
		fine(t, a.Fit(1))
		counts(t, a, 2, 9)
		ups(t, a, true, true, true)
		for at := range 8 {
			tells(t, a, 1, at, none)
		}
		fine(t, a.Write(1, 7, of(7)))
		tells(t, a, 1, 7, of(7))
		tells(t, a, 1, 2, none)
		for _, dev := range []int{0, 2} { // the others have what they had
			refuses(t, a, dev, 5, api.ErrIO)
			refuses(t, a, dev, 5, api.ErrIO)
			tells(t, a, dev, 5, of(byte(dev+1)))
			tells(t, a, dev, 6, of(byte(dev+11)))
			fine(t, a.Write(dev, 3, of(9)))
			tells(t, a, dev, 3, none)
			fine(t, a.Write(dev, 3, of(9)))
			tells(t, a, dev, 3, none)
			tells(t, a, dev, 2, of(9))
		}
		fine(t, a.Crash([]bool{false, false, true}, 0)) // 0.6 2.6 1.7 0.2 2.2
		tells(t, a, 1, 7, of(7))
		tells(t, a, 0, 6, none)
		tells(t, a, 2, 2, none)
	}
}

func TestP15_5_DoneThoughTheArrayBeOut(t *testing.T) {
	a := made(t, 4, 8)
	for dev := range 4 {
		fine(t, a.Write(dev, 5, of(byte(dev+1))), a.Flush(dev), a.Write(dev, 6, of(byte(dev+11))))
	}
	burn(t, a, 0)
	fine(t, a.Spoil(0, 5, 3, 255), a.Lose(0), a.Stray(0, 1), a.Fail(0, 3), a.Pull(1), a.Fit(2), a.Pull(3), a.Fit(3), a.Lose(3))
	errs(t, api.ErrGone, a.Spoil(1, 5, 3, 1), a.Lose(1), a.Stray(1, 5), a.Fail(1, 1), a.Pull(1))
	errs(t, api.ErrRange, a.Spoil(4, 5, 3, 1), a.Lose(4), a.Stray(4, 5), a.Fail(4, 1), a.Pull(4), a.Fit(4))
	errs(t, api.ErrArg, a.Fail(0, -1))
	counts(t, a, 1, 12)
	ups(t, a, false, false, false, false)
	refuses(t, a, 0, 5, api.ErrBroken)
	fine(t, a.Crash([]bool{true}, 0))
	ups(t, a, true, false, true, true)
	spoiled := of(1)
	spoiled[3] = 254
	tells(t, a, 0, 5, spoiled)
	tells(t, a, 0, 6, of(11))
	refuses(t, a, 1, 5, api.ErrGone)
	for _, dev := range []int{2, 3} {
		tells(t, a, dev, 5, none)
		tells(t, a, dev, 6, none)
	}
	for _, dev := range []int{0, 3} {
		fine(t, a.Write(dev, 7, of(7)))
		tells(t, a, dev, 7, of(7))
	}
}

// Nothing but what the chapter names ends a fault.
func TestP15_5_FaultsStay(t *testing.T) {
	a := made(t, 2, 8)
	fine(t, a.Fail(0, 1), a.Stray(0, 3), a.Lose(0))
	fine(t, a.Flush(0), a.Flush(1), a.Fuse(50), a.Spoil(0, 1, 1, 1), a.Write(1, 5, of(5)), a.Pull(1), a.Fit(1), a.Lose(1), a.Stray(1, 1), a.Fail(1, 0))
	errs(t, api.ErrRange, a.Write(0, 8, of(1)), a.Fit(2), a.Pull(2))
	refuses(t, a, 0, 5, api.ErrIO)
	tells(t, a, 0, 5, none)
	fine(t, a.Write(0, 5, of(1)))
	tells(t, a, 0, 5, none)
	tells(t, a, 0, 3, none)
	fine(t, a.Flush(0), a.Fail(0, 1))
	refuses(t, a, 0, 5, api.ErrIO)
	fine(t, a.Write(0, 5, of(2)))
	if b, is := a.Peek(0, 3); !is || !bytes.Equal(b, of(2)) {
		t.Error(text(b), is)
	}
	fine(t, a.Write(1, 5, of(6)), a.Write(1, 5, of(7)), a.Write(1, 5, of(8)))
	tells(t, a, 1, 1, of(7))
	tells(t, a, 1, 5, of(8))
}
