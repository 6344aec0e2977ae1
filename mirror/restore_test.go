package mirror_test

import (
	"fmt"
	"slices"
	"testing"

	"caulker/api"
)

// The copy on the device is not looked at, whatever it is; what is written there counts as no heal, and no other copy is healed.
func TestP16_5_RestoreInEachOrder(t *testing.T) {
	for _, row := range rows() {
		for i := range row {
			what := fmt.Sprint("Restore of ", row, " at ", i)
			a, m, p := laid(t, row)
			w := before(a)
			dev := p.Addrs[i].Dev
			if row[i] == gone {
				errs(t, api.ErrGone, m.Restore(p, dev))
				w.left(t, what, a, m)
				failures(t, what, a, row, p.Addrs, func(int) bool { return false })
				continue
			}
			others, where := slices.Delete(slices.Clone(row), i, i+1), slices.Delete(slices.Clone(p.Addrs), i, i+1)
			looked, is := till(others)
			w.look(looked, where)
			if is {
				w.write(p.Addrs[i])
				fine(t, m.Restore(p, dev))
			} else {
				errs(t, without(others), m.Restore(p, dev))
			}
			w.left(t, what, a, m)
			failures(t, what, a, others, where, func(j int) bool { return j < len(looked) })
			failures(t, what, a, row[i:i+1], p.Addrs[i:i+1], func(int) bool { return false })
		}
	}
}

func TestP16_5_NoAddressOnTheDevice(t *testing.T) {
	for _, row := range rows() {
		a, m, p := laid(t, row)
		w := before(a)
		for _, dev := range append(nobody(4), 1, 4, 5, 7) {
			errs(t, api.ErrMissing, m.Restore(p, dev))
		}
		w.left(t, "Restore", a, m)
		fine(t, a.Pull(1))
		errs(t, api.ErrMissing, m.Restore(p, 1))
		fine(t, a.Fit(1), a.Fuse(0))
		errs(t, api.ErrBroken, a.Flush(1))
		for _, dev := range append(nobody(4), 1) {
			errs(t, api.ErrMissing, m.Restore(p, dev))
		}
		for _, x := range p.Addrs { // out, so that none is up
			errs(t, api.ErrGone, m.Restore(p, x.Dev))
		}
		counted(t, "Restore", m)
	}
}

func TestP16_5_WrongPointers(t *testing.T) {
	a, m := unread(t)
	wrong := func() {
		for _, p := range wrongPointers() {
			for _, dev := range append(nobody(3), 0, 1, 2) {
				errs(t, api.ErrArg, m.Restore(p, dev))
			}
		}
	}
	wrong()
	untouched(t, a, m)
	fine(t, a.Pull(2))
	wrong()
	burn(t, a)
	wrong()
}

func TestP16_5_RestoreIsLoose(t *testing.T) {
	a, m, p := laid(t, []state{good, bad, bad})
	fine(t, m.Restore(p, 3), m.Restore(p, 0))
	if a.Loose() != 2 {
		t.Errorf("loose %d", a.Loose())
	}
	tells(t, a, at(3, 5), rising())
	tells(t, a, at(0, 7), rising())
	fine(t, a.Crash(nil, 0))
	tells(t, a, at(3, 5), wrongs()[2])
	fine(t, m.Restore(p, 3))
	flushes(t, m, 4, api.OK)
	fine(t, a.Crash(nil, 0))
	tells(t, a, at(3, 5), rising())
	counted(t, "Restore", m)
}

// A blank device gets its copy where another one is good.
func TestP16_5_ToADeviceThatIsBlank(t *testing.T) {
	a, m, p := laid(t, []state{gone, bad, good})
	errs(t, api.ErrGone, m.Restore(p, 2))
	fine(t, a.Fit(2), m.Restore(p, 2))
	tells(t, a, at(2, 6), rising())
	tells(t, a, at(0, 7), wrongs()[1])
	counted(t, "Restore", m, api.Errors{Sums: 1})
	fine(t, a.Pull(3))
	gets(t, m, p, rising())
}

func TestP16_5_TheWritesError(t *testing.T) {
	a, m, p := laid(t, []state{bad, bad, good})
	w := before(a)
	fine(t, a.Fuse(0))
	errs(t, api.ErrBroken, m.Restore(p, 2))
	errs(t, api.ErrGone, m.Restore(p, 2)) // now it is out
	w.look([]state{good, bad}, p.Addrs)
	counted(t, "Restore", m, w.errors...)
	fine(t, a.Crash(nil, 0))
	w.left(t, "Restore", a, m)
	fine(t, a.Fuse(0), a.Fail(3, 1))
	errs(t, api.ErrCorrupt, m.Restore(p, 2)) // nothing is written, so no fuse is asked
	if !a.Up(2) {
		t.Error("the array is out")
	}
}

func TestP16_5_AWriteThatIsLost(t *testing.T) {
	a, m, p := laid(t, []state{bad, good})
	w := before(a)
	fine(t, a.Lose(2), m.Restore(p, 2))
	w.steps++
	w.left(t, "Restore", a, m)
	fine(t, a.Stray(2, 3), m.Restore(p, 2))
	w.write(at(2, 3))
	w.left(t, "Restore", a, m)
	fine(t, m.Restore(p, 2))
	w.write(p.Addrs[0])
	w.left(t, "Restore", a, m)
}

// Each set of what stands against a call: the first one of its promise is told.
func TestP16_5_TheOrderOfErrors(t *testing.T) {
	for mask := range 1 << 6 {
		has := func(i int) bool { return mask>>i&1 == 1 }
		noArg, missing, isGone, isOut, lost, isBurnt := has(0), has(1), has(2), has(3), has(4), has(5)
		row := []state{bad, good}
		if lost {
			row[1] = bad
		}
		a, m, p := laid(t, row)
		dev, want := 2, api.OK
		if isGone {
			fine(t, a.Pull(2))
		}
		if isOut {
			fine(t, a.Fuse(0))
			errs(t, api.ErrBroken, a.Flush(1))
		} else if isBurnt {
			fine(t, a.Fuse(0))
		}
		if missing {
			dev = 3
		}
		if noArg {
			p.Level = 4
		}
		switch {
		case noArg:
			want = api.ErrArg
		case missing:
			want = api.ErrMissing
		case isGone || isOut:
			want = api.ErrGone
		case lost:
			want = api.ErrCorrupt
		case isBurnt:
			want = api.ErrBroken
		}
		if e := m.Restore(p, dev); e != want {
			t.Errorf("wrong %t, missing %t, gone %t, out %t, lost %t, burnt %t: %v, want %v", noArg, missing, isGone, isOut, lost, isBurnt, e, want)
		}
	}
}
