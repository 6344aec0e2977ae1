package mirror_test

import (
	"testing"

	"caulker/api"
)

func TestP16_2_Examples(t *testing.T) {
	a, m := made(t, 3, 8)
	p := to(of(2), at(0, 5), at(1, 5))
	puts(t, m, of(2), 2, p.Addrs...)
	gets(t, m, p, of(2))
	fine(t, a.Pull(0))
	gets(t, m, p, of(2))
	noPut(t, m, of(2), api.ErrIO, at(0, 5))
	flushes(t, m, 2, api.OK)
}

func TestP16_2_PutIsWhatIsLaid(t *testing.T) {
	for _, l := range [][]api.Addr{
		{at(0, 5)},
		{at(2, 7)},
		{at(2, 7), at(0, 5)},
		{at(0, 5), at(1, 5)},
		{at(0, 5), at(1, 6), at(2, 7)},
		{at(2, 5), at(1, 7), at(0, 6)},
		{at(1, 5), at(2, 5), at(0, 5)},
	} {
		a, m := made(t, 3, 8)
		want := image(a)
		puts(t, m, rising(), len(l), l...)
		for _, x := range l {
			want[x.Dev][x.At] = rising()
		}
		looks(t, "behind Put", a, want)
		if a.Loose() != len(l) || a.Steps() != len(l) {
			t.Errorf("loose %d, steps %d", a.Loose(), a.Steps())
		}
		gets(t, m, to(rising(), l...), rising())
		counted(t, "behind Put", m)
		puts(t, m, of(9), len(l), l...) // over what is there
		for _, x := range l {
			want[x.Dev][x.At] = of(9)
		}
		looks(t, "behind another Put", a, want)
	}
}

// A crash that keeps one loose write alone says which one it was.
func TestP16_2_PutIsInOrder(t *testing.T) {
	l := []api.Addr{at(2, 6), at(0, 7), at(1, 5)}
	for i, kept := range l {
		a, m := made(t, 3, 8)
		want := image(a)
		puts(t, m, of(5), 3, l...)
		keep := make([]bool, 3)
		keep[i] = true
		fine(t, a.Crash(keep, 0))
		want[kept.Dev][kept.At] = of(5)
		looks(t, "kept", a, want)
	}
}

func TestP16_2_AtTheEdges(t *testing.T) {
	for _, size := range [][2]int{{2, 8}, {3, 9}, {8, 4096}} {
		devs, sectors := size[0], size[1]
		_, m := made(t, devs, sectors)
		for dev := range devs {
			puts(t, m, of(7), 1, at(dev, sectors-1))
			puts(t, m, of(7), 1, at(dev, 5))
			noPut(t, m, of(7), api.ErrArg, at(dev, sectors))
			noPut(t, m, of(7), api.ErrArg, at(dev, 4))
			gets(t, m, to(of(7), at(dev, sectors-1)), of(7))
			noGet(t, m, to(of(7), at(dev, sectors)), api.ErrArg)
			noScan(t, m, to(of(7), at(dev, sectors)), api.ErrArg)
			errs(t, api.ErrArg, m.Restore(to(of(7), at(dev, sectors)), dev))
		}
		for _, dev := range nobody(devs) {
			noPut(t, m, of(7), api.ErrArg, at(dev, 5))
		}
	}
}

func TestP16_2_WrongAddresses(t *testing.T) {
	for _, isOut := range []bool{false, true} {
		a, m := made(t, 3, 8)
		if isOut {
			burn(t, a)
		}
		for _, l := range nowhere() {
			noPut(t, m, of(1), api.ErrArg, l...)
			noPut(t, m, nil, api.ErrArg, l...)
		}
		if a.Loose() != 0 || a.Steps() != 0 {
			t.Errorf("loose %d, steps %d", a.Loose(), a.Steps())
		}
	}
}

func TestP16_2_WrongBytes(t *testing.T) {
	a, m := made(t, 3, 8)
	fine(t, a.Lose(0), a.Fuse(2))
	long := make([]byte, 1024)
	for n := range long {
		if n != 256 {
			noPut(t, m, long[:n], api.ErrArg, at(0, 5), at(1, 5))
		}
	}
	noPut(t, m, nil, api.ErrArg, at(0, 5))
	noPut(t, m, make([]byte, 1<<16+256), api.ErrArg, at(0, 5))
	if a.Steps() != 0 {
		t.Errorf("steps %d", a.Steps())
	}
	puts(t, m, of(1), 2, at(0, 5), at(1, 5)) // neither the fault nor the fuse was used up
	tells(t, a, at(0, 5), none)
	tells(t, a, at(1, 5), of(1))
	fine(t, a.Pull(2))
	noPut(t, m, long[:255], api.ErrArg, at(2, 5))
	noPut(t, m, long[:257], api.ErrArg, at(1, 5))
	errs(t, api.ErrBroken, a.Flush(0))
	noPut(t, m, long[:255], api.ErrArg, at(1, 5))
}

// Those that are gone take nothing, and do not end it.
func TestP16_2_PutToDevicesThatAreGone(t *testing.T) {
	l := []api.Addr{at(2, 6), at(0, 7), at(1, 5)}
	for n := 1; n <= 3; n++ {
		for gone := range 1 << n {
			a, m := made(t, 3, 8)
			left := 0
			for i, x := range l[:n] {
				if gone>>i&1 == 1 {
					fine(t, a.Pull(x.Dev))
				} else {
					left++
				}
			}
			if left == 0 {
				noPut(t, m, of(3), api.ErrIO, l[:n]...)
			} else {
				puts(t, m, of(3), left, l[:n]...)
			}
			if a.Steps() != left {
				t.Errorf("%d of %d: steps %d, want %d", gone, n, a.Steps(), left)
			}
			for i, x := range l[:n] {
				if gone>>i&1 == 0 {
					tells(t, a, x, of(3))
				}
			}
			counted(t, "behind Put", m)
		}
	}
}

// A write that is lost, or strays, was answered OK: the device took it. Failures are of reads.
func TestP16_2_PutToDevicesThatDoWrong(t *testing.T) {
	a, m := made(t, 3, 8)
	want := image(a)
	fine(t, a.Lose(0), a.Stray(1, 1), a.Fail(2, 1))
	puts(t, m, of(4), 3, at(0, 5), at(1, 5), at(2, 5))
	want[1][1], want[2][5] = of(4), of(4)
	looks(t, "behind Put", a, want)
	fine(t, a.Lose(0))
	puts(t, m, of(4), 1, at(0, 5))
	counted(t, "behind Put", m)
}

// Those ahead of the one that the fuse refused are laid; one that is gone is no step.
func TestP16_2_PutEndsWhereTheArrayGoesOut(t *testing.T) {
	for _, goneAhead := range []int{0, 1} {
		l := append([]api.Addr{at(3, 5)}[:goneAhead], at(2, 6), at(0, 7), at(1, 5))[:3]
		steps := 3 - goneAhead
		for fuse := range steps {
			a, m := made(t, 4, 8)
			want := image(a)
			fine(t, a.Pull(3), a.Fuse(fuse))
			want[3] = nil
			noPut(t, m, of(6), api.ErrBroken, l...)
			noPut(t, m, of(6), api.ErrBroken, l...)
			if a.Steps() != fuse {
				t.Errorf("steps %d, want %d", a.Steps(), fuse)
			}
			all(t, a)
			for _, x := range l[goneAhead : goneAhead+fuse] {
				want[x.Dev][x.At] = of(6)
			}
			looks(t, "behind a crash", a, want)
		}
		a, m := made(t, 4, 8)
		fine(t, a.Pull(3), a.Fuse(steps)) // as many steps as it takes
		puts(t, m, of(6), steps, l...)
	}
}

func TestP16_2_PutToAnArrayThatIsOut(t *testing.T) {
	a, m := made(t, 3, 8)
	puts(t, m, of(1), 1, at(0, 5))
	burn(t, a)
	noPut(t, m, of(2), api.ErrBroken, at(0, 5), at(1, 5))
	fine(t, a.Pull(0), a.Pull(1))
	noPut(t, m, of(2), api.ErrBroken, at(0, 5), at(1, 5)) // it is out ahead of being gone
	all(t, a)
	noPut(t, m, of(2), api.ErrIO, at(0, 5), at(1, 5))
	puts(t, m, of(2), 1, at(0, 5), at(1, 5), at(2, 5))
}

// A fuse is asked ahead of nothing where all are gone: no step is tried.
func TestP16_2_PutToNoneWithABurntFuse(t *testing.T) {
	a, m := made(t, 2, 8)
	fine(t, a.Pull(0), a.Fuse(0))
	noPut(t, m, of(2), api.ErrIO, at(0, 5))
	if !a.Up(1) {
		t.Error("the array is out")
	}
	noPut(t, m, of(2), api.ErrBroken, at(0, 5), at(1, 5))
	if a.Up(1) {
		t.Error("the array is not out")
	}
}

func TestP16_2_Flush(t *testing.T) {
	for devs := 2; devs <= 8; devs++ {
		for gone := range 1 << devs {
			a, m := made(t, devs, 8)
			want := image(a)
			left := 0
			for dev := range devs {
				fine(t, a.Write(dev, 6, of(byte(dev+1))))
				if gone>>dev&1 == 1 {
					fine(t, a.Pull(dev))
					want[dev] = nil
				} else {
					want[dev][6] = of(byte(dev + 1))
					left++
				}
			}
			if left == 0 {
				flushes(t, m, 0, api.ErrIO)
			} else {
				flushes(t, m, left, api.OK)
			}
			if a.Loose() != 0 || a.Steps() != devs+left {
				t.Fatalf("loose %d, steps %d", a.Loose(), a.Steps())
			}
			fine(t, a.Crash(nil, 0))
			looks(t, "behind a crash", a, want)
			counted(t, "behind Flush", m)
		}
	}
}

// By rising numbers, so a fuse leaves the last ones loose.
func TestP16_2_FlushEndsWhereTheArrayGoesOut(t *testing.T) {
	for fuse := range 4 {
		a, m := made(t, 5, 8)
		want := image(a)
		for _, dev := range []int{4, 2, 0, 3, 1} {
			fine(t, a.Write(dev, 5, of(8)))
		}
		fine(t, a.Pull(1), a.Fuse(fuse))
		flushes(t, m, 0, api.ErrBroken)
		flushes(t, m, 0, api.ErrBroken)
		if a.Loose() != 4-fuse || a.Steps() != 5+fuse {
			t.Errorf("loose %d, steps %d", a.Loose(), a.Steps())
		}
		fine(t, a.Crash(nil, 0))
		want[1] = nil
		for _, dev := range []int{0, 2, 3, 4}[:fuse] {
			want[dev][5] = of(8)
		}
		looks(t, "behind a crash", a, want)
	}
	a, m := made(t, 5, 8)
	fine(t, a.Fuse(5))
	flushes(t, m, 5, api.OK)
	flushes(t, m, 0, api.ErrBroken)
}

func TestP16_2_FlushOfAnArrayThatIsOut(t *testing.T) {
	a, m := made(t, 3, 8)
	burn(t, a)
	flushes(t, m, 0, api.ErrBroken)
	fine(t, a.Pull(0), a.Pull(1), a.Pull(2))
	flushes(t, m, 0, api.ErrBroken)
	fine(t, a.Crash(nil, 0))
	flushes(t, m, 0, api.ErrIO)
	fine(t, a.Fuse(0))
	flushes(t, m, 0, api.ErrIO) // there is none, so no step is tried
	fine(t, a.Fit(2))
	flushes(t, m, 0, api.ErrBroken)
	fine(t, a.Crash(nil, 0))
	flushes(t, m, 1, api.OK)
}

func TestP16_2_FlushUsesUpNoFault(t *testing.T) {
	a, m := made(t, 2, 8)
	fine(t, a.Lose(0), a.Stray(1, 2), a.Fail(0, 1), a.Fail(1, 2))
	flushes(t, m, 2, api.OK)
	p := to(none, at(0, 5), at(1, 5))
	noGet(t, m, p, api.ErrIO)
	puts(t, m, of(1), 2, at(0, 5), at(1, 5))
	tells(t, a, at(0, 5), none)
	tells(t, a, at(1, 2), of(1))
}
