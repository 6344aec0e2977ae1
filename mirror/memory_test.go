package mirror_test

import (
	"bytes"
	"slices"
	"testing"

	"caulker/api"
)

// spoil lays x at all places of a list, its spare room too.
func spoil[T any](l []T, x T) {
	l = l[:cap(l)]
	for i := range l {
		l[i] = x
	}
}

func TestP16_2_WhatIsPutIsNotKept(t *testing.T) {
	a, m := made(t, 3, 8)
	b := append(rising(), of(77)...)[:256]
	addrs := append(make([]api.Addr, 0, 8), at(2, 6), at(0, 7))
	puts(t, m, b, 2, addrs...)
	spoil(b, 99)
	spoil(addrs, at(1, 1))
	tells(t, a, at(2, 6), rising())
	tells(t, a, at(0, 7), rising())
	gets(t, m, to(rising(), at(2, 6), at(0, 7)), rising())
	flushes(t, m, 3, api.OK)
	tells(t, a, at(0, 7), rising())
}

func TestP16_7_WhatIsHandedInStays(t *testing.T) {
	for _, row := range rows() {
		a, m, p := laid(t, row)
		whole := append(slices.Clone(p.Addrs), at(1, 5), at(9, 9), at(-1, 0))
		was := slices.Clone(whole)
		q := p
		q.Addrs = whole[:len(row)]
		block := append(rising(), of(77)...)
		blockWas := bytes.Clone(block)
		if _, e := m.Get(q); e == api.ErrArg {
			t.Fatal(e)
		}
		for _, x := range was {
			m.Restore(q, x.Dev)
		}
		if _, e := m.Scan(q); e != api.OK {
			t.Fatal(e)
		}
		m.Put(q.Addrs, block[:256])
		m.Put(q.Addrs, block)
		m.Put(whole, block[:256])
		q.Addrs = whole
		noGet(t, m, q, api.ErrArg)
		noScan(t, m, q, api.ErrArg)
		if !slices.Equal(whole, was) || !bytes.Equal(block, blockWas) || q.Sum != p.Sum || q.Birth != 1 || q.Level != 0 {
			t.Errorf("%v: what was handed in is changed: %v", row, whole)
		}
		if _, is := a.Peek(1, 5); !is { // what stands in spare room is nobody's address
			t.Error("1 is gone")
		}
		tells(t, a, at(1, 5), none)
	}
}

func TestP16_3_WhatIsToldIsNewMemory(t *testing.T) {
	for _, row := range [][]state{{good}, {bad, good}, {good, good, good}, {bad, bad, good}, {refused, bad, good}} {
		a, m, p := laid(t, row)
		one, _ := m.Get(p)
		two, _ := m.Get(p)
		spoil(one, 99)
		if !bytes.Equal(two, rising()) {
			t.Errorf("%v: two answers share memory", row)
		}
		gets(t, m, p, rising())
		for i, s := range row {
			if s == good || s == bad && i < slices.Index(row, good) {
				tells(t, a, p.Addrs[i], rising())
			}
		}
		for _, x := range p.Addrs { // and an answer does not follow what is done later
			fine(t, a.Write(x.Dev, x.At, of(3)), a.Flush(x.Dev), a.Spoil(x.Dev, x.At, 0, 1))
		}
		if !bytes.Equal(two, rising()) {
			t.Errorf("%v: what was told is another thing now", row)
		}
	}
}

// The bytes that a copy is healed with, or restored, are the array's own from then on.
func TestP16_5_WhatIsWrittenIsNotShared(t *testing.T) {
	a, m, p := laid(t, []state{bad, good, bad})
	b, e := m.Get(p)
	fine(t, e, m.Restore(p, 3), a.Flush(0))
	spoil(b, 99)
	fine(t, a.Spoil(0, 7, 0, 1), a.Flush(2), a.Flush(3), a.Spoil(2, 6, 1, 1))
	tells(t, a, at(0, 7), changed(rising(), 0, 1))
	tells(t, a, at(2, 6), changed(rising(), 1, 1))
	tells(t, a, at(3, 5), rising())
}

// A mirror's counts are told by value.
func TestP16_1_WhatErrorsTellsStays(t *testing.T) {
	_, m := made(t, 2, 8)
	p := to(of(1), at(0, 5))
	noGet(t, m, p, api.ErrCorrupt)
	one := m.Errors(0)
	noGet(t, m, p, api.ErrCorrupt)
	one.Heals = 9
	if one != (api.Errors{Sums: 1, Heals: 9}) || m.Errors(0) != (api.Errors{Sums: 2}) {
		t.Error(one, m.Errors(0))
	}
}
