package array_test

import (
	"bytes"
	"testing"

	"caulker/api"
)

func TestP15_3_WhatIsHandedInIsNotKept(t *testing.T) {
	a := made(t, 2, 8)
	b := append(rising(), of(77)...)[:256]
	fine(t, a.Write(0, 5, b), a.Stray(0, 2), a.Write(0, 6, b))
	for i := range b[:cap(b)] {
		b[:cap(b)][i] = 99
	}
	tells(t, a, 0, 5, rising())
	tells(t, a, 0, 2, rising())
	fine(t, a.Flush(0))
	clear(b)
	tells(t, a, 0, 5, rising())
	fine(t, a.Write(0, 7, of(3)), a.Write(0, 6, of(4)))
	keep := []bool{true}
	fine(t, a.Crash(keep, 0))
	keep[0] = false
	tells(t, a, 0, 7, of(3))
	tells(t, a, 0, 6, none)
}

func TestP15_3_WhatIsHandedInStays(t *testing.T) {
	a := made(t, 2, 8)
	whole := append(rising(), of(77)...)
	was := bytes.Clone(whole)
	b := whole[:256]
	fine(t, a.Write(0, 5, b), a.Spoil(0, 5, 0, 9), a.Flush(0), a.Spoil(0, 5, 1, 9), a.Lose(0), a.Write(0, 5, b), a.Stray(0, 1), a.Write(0, 5, b), a.Write(0, 1, of(5)))
	errs(t, api.ErrArg, a.Write(0, 5, whole))
	keep := append(make([]bool, 0, 8), true, false, true)
	fine(t, a.Crash(keep, 9))
	if !bytes.Equal(whole, was) || !keep[0] || keep[1] || !keep[2] || keep[:8][3] {
		t.Error("what was handed in is changed")
	}
}

func TestP15_2_WhatIsToldIsNewMemory(t *testing.T) {
	a := made(t, 2, 8)
	fine(t, a.Write(0, 5, rising()), a.Flush(0), a.Write(0, 6, rising()))
	for at, want := range map[int][]byte{4: none, 5: rising(), 6: rising()} {
		one, _ := a.Read(0, at)
		two, _ := a.Peek(0, at)
		three, _ := a.Read(0, at)
		for _, b := range [][]byte{one, two} {
			for i := range b[:cap(b)] {
				b[:cap(b)][i] = 99
			}
		}
		if !bytes.Equal(three, want) {
			t.Errorf("two answers of %d share memory", at)
		}
		tells(t, a, 0, at, want)
	}
	for at := range 8 {
		tells(t, a, 1, at, none)
	}
	tells(t, a, 0, 3, none)
	tells(t, a, 0, 7, none)
	b, _ := a.Read(0, 6) // what is read may be written elsewhere, and changed
	fine(t, a.Write(1, 6, b))
	b[0] = 99
	tells(t, a, 1, 6, rising())
	fine(t, a.Flush(0), a.Crash(nil, 0))
	tells(t, a, 0, 6, rising())
}

// What is told does not follow what is done later.
func TestP15_2_WhatIsToldStays(t *testing.T) {
	a := made(t, 2, 8)
	fine(t, a.Write(0, 5, of(1)), a.Flush(0), a.Write(0, 6, of(2)))
	firm, _ := a.Read(0, 5)
	loose, _ := a.Read(0, 6)
	peeked, _ := a.Peek(0, 5)
	fine(t, a.Spoil(0, 5, 0, 1), a.Write(0, 5, of(3)), a.Write(0, 6, of(4)), a.Flush(0), a.Spoil(0, 6, 0, 1), a.Pull(0), a.Fit(0))
	if !bytes.Equal(firm, of(1)) || !bytes.Equal(loose, of(2)) || !bytes.Equal(peeked, of(1)) {
		t.Error(text(firm), text(loose), text(peeked))
	}
}
