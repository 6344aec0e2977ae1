package mirror_test

import (
	"fmt"
	"slices"
	"testing"

	"caulker/api"
)

func TestP16_4_Examples(t *testing.T) {
	a, m := made(t, 3, 8)
	p := to(of(2), at(0, 5), at(1, 5))
	puts(t, m, of(2), 2, p.Addrs...)
	flushes(t, m, 3, api.OK)
	fine(t, a.Pull(0), a.Fit(0))
	scans(t, m, p, api.Scan{Good: 1, Healed: 1})
	errs(t, api.ErrMissing, m.Restore(p, 2))
	fine(t, m.Restore(p, 0))
}

func TestP16_4_ScanInEachOrder(t *testing.T) {
	for _, row := range rows() {
		what := fmt.Sprint("Scan of ", row)
		a, m, p := laid(t, row)
		w := before(a)
		w.scan(t, m, p, row, 3)
		w.left(t, what, a, m)
		failures(t, what, a, row, p.Addrs, func(int) bool { return true })
	}
}

func TestP16_4_ScanAgain(t *testing.T) {
	for _, row := range rows() {
		a, m, p := laid(t, row)
		w := before(a)
		for range 3 {
			w.scan(t, m, p, row, 3)
			w.left(t, fmt.Sprint("Scan of ", row), a, m)
			row = behind(row, len(row))
		}
	}
}

// All copies are looked at ahead of the first write, so where the fuse refuses that one the others were counted.
func TestP16_4_HealingThatIsRefused(t *testing.T) {
	for _, row := range rows() {
		for fuse := range 4 {
			what := fmt.Sprint("Scan of ", row, " with a fuse of ", fuse)
			a, m, p := laid(t, row)
			w := before(a)
			fine(t, a.Fuse(fuse))
			w.scan(t, m, p, row, fuse)
			goesOut := slices.Contains(row, good) && counts(row, bad) > fuse
			if a.Up(1) == goesOut {
				t.Fatalf("%s: out %t", what, !goesOut)
			}
			if goesOut {
				noScan(t, m, p, api.ErrBroken)
				all(t, a)
			}
			w.left(t, what, a, m)
		}
	}
}

func TestP16_4_WhatIsHealedIsInOrder(t *testing.T) {
	for _, row := range [][]state{{bad, bad, good}, {bad, good, bad}, {good, bad, bad}} {
		for kept := range 2 {
			a, m, p := laid(t, row)
			scans(t, m, p, api.Scan{Good: 1, Healed: 2})
			keep := make([]bool, 2)
			keep[kept] = true
			fine(t, a.Crash(keep, 0))
			n := 0
			for i, s := range row {
				if s != bad {
					continue
				}
				want := wrongs()[i]
				if n == kept {
					want = rising()
				}
				tells(t, a, p.Addrs[i], want)
				n++
			}
		}
	}
}

// A heal that is lost, or strays, was answered OK.
func TestP16_4_HealingThatIsLost(t *testing.T) {
	a, m, p := laid(t, []state{bad, good, bad})
	w := before(a)
	first, third := p.Addrs[0], p.Addrs[2]
	fine(t, a.Lose(first.Dev), a.Stray(third.Dev, 0))
	scans(t, m, p, api.Scan{Good: 1, Healed: 2})
	w.look([]state{bad, good, bad}, p.Addrs)
	w.heal([]state{bad, good, bad}, p.Addrs, 2)
	w.image[first.Dev][first.At], w.image[third.Dev][third.At] = wrongs()[0], wrongs()[2]
	w.image[third.Dev][0] = rising()
	w.left(t, "Scan", a, m)
	scans(t, m, p, api.Scan{Good: 1, Healed: 2})
	scans(t, m, p, api.Scan{Good: 3})
}

// A failure is used up by one look.
func TestP16_4_ManyFailures(t *testing.T) {
	a, m, p := laid(t, []state{good, good, bad})
	fine(t, a.Fail(2, 2), a.Fail(0, 1))
	scans(t, m, p, api.Scan{Bad: 1, Lost: 2})
	scans(t, m, p, api.Scan{Good: 1, Healed: 1, Lost: 1})
	scans(t, m, p, api.Scan{Good: 3})
	counted(t, "behind all", m, api.Errors{Reads: 1}, api.Errors{}, api.Errors{Reads: 2}, api.Errors{Sums: 2, Heals: 1})
}

func TestP16_4_WrongPointers(t *testing.T) {
	a, m := unread(t)
	for _, p := range wrongPointers() {
		noScan(t, m, p, api.ErrArg)
	}
	untouched(t, a, m)
}
