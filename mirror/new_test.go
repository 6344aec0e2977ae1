package mirror_test

import (
	"testing"

	"caulker/api"
	"caulker/array"
	"caulker/mirror"
)

func TestP16_1_NoArray(t *testing.T) {
	a, _ := made(t, 2, 8)
	copied := *a
	for i, x := range []*array.Array{nil, {}, new(array.Array), &copied} {
		if m, e := mirror.New(x); m != nil || e != api.ErrNil {
			t.Errorf("%d: %v, %v", i, m, e)
		}
	}
}

func TestP16_1_NoErrorsAtFirst(t *testing.T) {
	for devs := 2; devs <= 8; devs++ {
		for _, sectors := range []int{8, 60, 4096} {
			a, m := made(t, devs, sectors)
			counted(t, "at first", m)
			if a.Steps() != 0 || a.Loose() != 0 {
				t.Errorf("steps %d, loose %d", a.Steps(), a.Loose())
			}
		}
	}
}

// A mirror may be made whatever has befallen the array.
func TestP16_1_NewOverAnArrayThatIsOut(t *testing.T) {
	a, _ := made(t, 2, 8)
	burn(t, a)
	m := over(t, a)
	counted(t, "over one that is out", m)
	noGet(t, m, to(none, at(0, 5)), api.ErrBroken)
	fine(t, a.Crash(nil, 0), a.Pull(0), a.Pull(1))
	m = over(t, a)
	noGet(t, m, to(none, at(0, 5)), api.ErrIO)
	fine(t, a.Fit(1))
	gets(t, over(t, a), to(none, at(0, 5), at(1, 5)), none)
}

func TestP16_1_ErrorsOfNoDevice(t *testing.T) {
	for devs := 2; devs <= 8; devs++ {
		a, m := made(t, devs, 8)
		for dev := range devs {
			fine(t, a.Fail(dev, 1))
			noGet(t, m, to(of(1), at(dev, 5)), api.ErrIO)
			noGet(t, m, to(of(1), at(dev, 5)), api.ErrCorrupt)
		}
		for dev := range devs {
			if got := m.Errors(dev); got != (api.Errors{Reads: 1, Sums: 1}) {
				t.Errorf("Errors(%d) of %d: %+v", dev, devs, got)
			}
		}
		for _, dev := range nobody(devs) {
			if got := m.Errors(dev); got != (api.Errors{}) {
				t.Errorf("Errors(%d) of %d: %+v", dev, devs, got)
			}
		}
	}
}

// Each device has counts of its own, which go up by one and stay, whatever else is done: when it is gone, and another one in its place, too.
func TestP16_1_ErrorsOfEachDevice(t *testing.T) {
	a, m := made(t, 8, 8)
	var want [8]api.Errors
	for dev := range 8 {
		other := (dev + 1) % 8
		puts(t, m, of(2), 2, at(dev, 5), at(other, 6))
		for range dev { // so many failures
			fine(t, a.Fail(dev, 1))
			gets(t, m, to(of(2), at(dev, 5), at(other, 6)), of(2))
			want[dev].Reads++
		}
		for range 8 - dev { // so many are healed
			fine(t, a.Write(dev, 5, of(3)))
			gets(t, m, to(of(2), at(dev, 5), at(other, 6)), of(2))
			want[dev].Sums++
			want[dev].Heals++
		}
		for range 2*dev + 1 { // so many can't be
			noGet(t, m, to(of(9), at(dev, 5)), api.ErrCorrupt)
			want[dev].Sums++
		}
		counted(t, "so far", m, want[:]...)
	}
	flushes(t, m, 8, api.OK)
	fine(t, a.Pull(3), a.Fit(5), a.Crash(nil, 0), a.Pull(7), a.Fit(7))
	counted(t, "behind a crash", m, want[:]...)
	burn(t, a)
	noGet(t, m, to(of(2), at(0, 5)), api.ErrBroken)
	counted(t, "of one that is out", m, want[:]...)
}

func TestP16_1_TwoMirrorsOverOneArray(t *testing.T) {
	a, one := made(t, 3, 8)
	two := over(t, a)
	p := to(rising(), at(0, 5), at(1, 6), at(2, 7))
	puts(t, one, rising(), 3, p.Addrs...)
	gets(t, two, p, rising()) // both have the same array
	flushes(t, two, 3, api.OK)
	fine(t, a.Crash(nil, 0), a.Spoil(0, 5, 9, 1), a.Fail(1, 1))
	gets(t, one, p, rising())
	counted(t, "the one", one, api.Errors{Sums: 1, Heals: 1}, api.Errors{Reads: 1})
	counted(t, "the other", two)
	fine(t, a.Write(1, 6, none))
	scans(t, two, p, api.Scan{Good: 2, Healed: 1})
	scans(t, one, p, api.Scan{Good: 3})
	counted(t, "the one", one, api.Errors{Sums: 1, Heals: 1}, api.Errors{Reads: 1})
	counted(t, "the other", two, api.Errors{}, api.Errors{Sums: 1, Heals: 1})
	counted(t, "a third one", over(t, a))
	b, other := made(t, 3, 8) // and another array is another thing
	noGet(t, other, p, api.ErrCorrupt)
	if b.Steps() != 0 {
		t.Error("the other array was written to")
	}
}

// What New did not make answers ErrNil, whatever else is wrong, and noughts: so does a copy.
func TestP16_1_NotMade(t *testing.T) {
	a, m := made(t, 3, 8)
	p := to(none, at(0, 5), at(1, 5))
	noGet(t, m, to(of(1), at(0, 5)), api.ErrCorrupt)
	copied := *m
	for i, x := range []*mirror.Mirror{nil, {}, new(mirror.Mirror), &copied} {
		for _, l := range append(nowhere(), p.Addrs) {
			noPut(t, x, none, api.ErrNil, l...)
			noPut(t, x, nil, api.ErrNil, l...)
			q := p
			q.Addrs = l
			noGet(t, x, q, api.ErrNil)
			noScan(t, x, q, api.ErrNil)
			for _, dev := range append(nobody(3), 0, 1, 2) {
				errs(t, api.ErrNil, x.Restore(q, dev))
			}
		}
		flushes(t, x, 0, api.ErrNil)
		noGet(t, x, api.Pointer{}, api.ErrNil)
		for _, dev := range append(nobody(3), 0, 1, 2) {
			if got := x.Errors(dev); got != (api.Errors{}) {
				t.Errorf("%d: Errors(%d): %+v", i, dev, got)
			}
		}
	}
	if a.Steps() != 0 {
		t.Error("the array was written to")
	}
	counted(t, "the one that is copied", m, api.Errors{Sums: 1})
	gets(t, m, p, none)
}
