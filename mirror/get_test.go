package mirror_test

import (
	"fmt"
	"math"
	"slices"
	"testing"

	"caulker/api"
)

func TestP16_3_Examples(t *testing.T) {
	a, m := made(t, 3, 8)
	b, p := of(2), to(of(2), at(0, 5), at(1, 5))
	puts(t, m, b, 2, p.Addrs...)
	gets(t, m, p, b)
	flushes(t, m, 3, api.OK)
	fine(t, a.Spoil(0, 5, 0, 1))
	gets(t, m, p, b)
	counted(t, "the example", m, api.Errors{Sums: 1, Heals: 1})
	if got, e := a.Read(0, 5); e != api.OK || string(got) != string(b) {
		t.Errorf("%s, %v", text(got), e)
	}
	q := p
	q.Sum = api.ID{}
	noGet(t, m, q, api.ErrCorrupt)
	noGet(t, m, api.Pointer{}, api.ErrArg)
}

func TestP16_3_GetInEachOrder(t *testing.T) {
	for _, row := range rows() {
		what := fmt.Sprint("Get of ", row)
		a, m, p := laid(t, row)
		w := before(a)
		looked := w.get(t, m, p, row, 3)
		w.left(t, what, a, m)
		failures(t, what, a, row, p.Addrs, func(i int) bool { return i < len(looked) })
	}
}

// Asked again and again, one that is healed is good, and one that is bad is counted each time.
func TestP16_3_GetAgain(t *testing.T) {
	for _, row := range rows() {
		a, m, p := laid(t, row)
		w := before(a)
		for range 3 {
			looked := w.get(t, m, p, row, 3)
			w.left(t, fmt.Sprint("Get of ", row), a, m)
			row = behind(row, len(looked))
		}
	}
}

// Whichever bit is another one, it is found.
func TestP16_3_EachBitIsFound(t *testing.T) {
	a, m := made(t, 2, 8)
	p := to(rising(), at(1, 7), at(0, 5))
	puts(t, m, rising(), 2, p.Addrs...)
	flushes(t, m, 2, api.OK)
	n := 0
	for place := range 256 {
		for bit := range 8 {
			fine(t, a.Spoil(1, 7, place, 1<<bit))
			gets(t, m, p, rising())
			n++
			counted(t, "healed", m, api.Errors{}, api.Errors{Sums: n, Heals: n})
			fine(t, a.Flush(1))
			tells(t, a, at(1, 7), rising())
		}
	}
	for place := range 32 { // and of the digest
		q := p
		q.Sum[place] ^= 1
		noGet(t, m, q, api.ErrCorrupt)
	}
}

// What is healed is loose till its device is flushed.
func TestP16_3_WhatIsHealedIsLoose(t *testing.T) {
	a, m, p := laid(t, []state{bad, bad, good})
	gets(t, m, p, rising())
	if a.Loose() != 2 {
		t.Errorf("loose %d", a.Loose())
	}
	fine(t, a.Crash([]bool{true, false}, 0)) // in the order of the copies
	tells(t, a, p.Addrs[0], rising())
	tells(t, a, p.Addrs[1], wrongs()[1])
	gets(t, m, p, rising())
	flushes(t, m, 4, api.OK)
	scans(t, m, p, api.Scan{Good: 2, Healed: 1})
	counted(t, "behind all", m, api.Errors{Sums: 2, Heals: 2}, api.Errors{}, api.Errors{Sums: 1, Heals: 1})
}

// Healing that the fuse refuses ends nothing, and is not counted; the bytes are told, though the array is out.
func TestP16_3_HealingThatIsRefused(t *testing.T) {
	for _, row := range rows() {
		for fuse := range 4 {
			what := fmt.Sprint("Get of ", row, " with a fuse of ", fuse)
			a, m, p := laid(t, row)
			w := before(a)
			fine(t, a.Fuse(fuse))
			looked := w.get(t, m, p, row, fuse)
			goesOut := slices.Contains(row, good) && counts(looked, bad) > fuse
			if a.Up(1) == goesOut {
				t.Fatalf("%s: out %t", what, !goesOut)
			}
			if goesOut {
				noGet(t, m, p, api.ErrBroken)
				all(t, a)
			}
			w.left(t, what, a, m)
		}
	}
}

// A heal that is lost, or strays, was answered OK.
func TestP16_3_HealingThatIsLost(t *testing.T) {
	a, m, p := laid(t, []state{bad, bad, good})
	w := before(a)
	first, second := p.Addrs[0], p.Addrs[1]
	fine(t, a.Lose(first.Dev), a.Stray(second.Dev, 1))
	gets(t, m, p, rising())
	w.look([]state{bad, bad}, p.Addrs)
	w.heal([]state{bad, bad}, p.Addrs, 2)
	w.image[first.Dev][first.At], w.image[second.Dev][second.At] = wrongs()[0], wrongs()[1]
	w.image[second.Dev][1] = rising()
	w.left(t, "Get", a, m)
	gets(t, m, p, rising()) // again, and now they are
	tells(t, a, first, rising())
	tells(t, a, second, rising())
	counted(t, "Get again", m, api.Errors{Sums: 2, Heals: 2}, api.Errors{}, api.Errors{Sums: 2, Heals: 2})
}

func TestP16_3_OfAnArrayThatIsOut(t *testing.T) {
	for _, row := range rows() {
		a, m, p := laid(t, row)
		w := before(a)
		fine(t, a.Fuse(0))
		errs(t, api.ErrBroken, a.Flush(1))
		noGet(t, m, p, api.ErrBroken) // ahead of its devices being gone
		noScan(t, m, p, api.ErrBroken)
		fine(t, a.Crash(nil, 0))
		w.left(t, "out", a, m)
	}
	a, m := made(t, 3, 8)
	burn(t, a)
	for _, p := range wrongPointers() { // what may not be is told ahead
		noGet(t, m, p, api.ErrArg)
		noScan(t, m, p, api.ErrArg)
	}
}

// wrongPointers are such as may not be, holes, and such as have an address that an array of three devices of eight sectors has not.
func wrongPointers() []api.Pointer {
	right := to(none, at(0, 5), at(1, 5))
	var l []api.Pointer
	with := func(do func(p *api.Pointer)) {
		p := right
		do(&p)
		l = append(l, p)
	}
	for _, addrs := range nowhere() {
		with(func(p *api.Pointer) { p.Addrs = addrs })
	}
	for _, birth := range []int{0, -1, 1<<31 + 1, 1 << 32, 1<<32 + 1, math.MinInt, math.MaxInt} {
		with(func(p *api.Pointer) { p.Birth = birth })
	}
	for _, level := range []int{-1, 4, 5, 256, 1 << 32, math.MinInt, math.MaxInt} {
		with(func(p *api.Pointer) { p.Level = level })
	}
	return append(l,
		api.Pointer{},
		api.Pointer{Addrs: []api.Addr{}},
		api.Pointer{Birth: 1},
		api.Pointer{Level: 1},
		api.Pointer{Sum: right.Sum},
		api.Pointer{Addrs: right.Addrs})
}

func TestP16_3_WrongPointers(t *testing.T) {
	a, m := unread(t)
	for _, p := range wrongPointers() {
		noGet(t, m, p, api.ErrArg)
	}
	untouched(t, a, m)
}

// What else a pointer says does not matter, if it may be.
func TestP16_3_AnyBirthAndLevel(t *testing.T) {
	_, m := made(t, 3, 8)
	p := to(none, at(1, 7))
	for _, p.Birth = range []int{1, 2, 1 << 16, 1<<31 - 1, 1 << 31} {
		for p.Level = range 4 {
			gets(t, m, p, none)
			scans(t, m, p, api.Scan{Good: 1})
			errs(t, api.ErrIO, m.Restore(p, 1))
		}
	}
}
