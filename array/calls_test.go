package array_test

import (
	"bytes"
	"fmt"
	"math"
	"testing"

	"caulker/api"
	"caulker/array"
)

// machine is what has an array's calls that answer an error.
type machine interface {
	Read(dev, at int) ([]byte, api.Errno)
	Write(dev, at int, b []byte) api.Errno
	Flush(dev int) api.Errno
	Fuse(n int) api.Errno
	Crash(keep []bool, torn int) api.Errno
	Spoil(dev, at, place int, mask byte) api.Errno
	Lose(dev int) api.Errno
	Stray(dev, at int) api.Errno
	Fail(dev, n int) api.Errno
	Pull(dev int) api.Errno
	Fit(dev int) api.Errno
}

// call is one of them, with arguments of which it takes those that it has.
type call struct {
	name       string
	dev, at, n int
	mask       byte
	b          []byte
	keep       []bool
}

func names() []string {
	return []string{"Read", "Write", "Flush", "Fuse", "Crash", "Spoil", "Lose", "Stray", "Fail", "Pull", "Fit"}
}

func (c call) String() string {
	return fmt.Sprintf("%s of dev %d, at %d, n %d, mask %d, keep %v, %s", c.name, c.dev, c.at, c.n, c.mask, c.keep, text(c.b))
}

func (c call) do(m machine) ([]byte, api.Errno) {
	switch c.name {
	case "Read":
		return m.Read(c.dev, c.at)
	case "Write":
		return nil, m.Write(c.dev, c.at, c.b)
	case "Flush":
		return nil, m.Flush(c.dev)
	case "Fuse":
		return nil, m.Fuse(c.n)
	case "Crash":
		return nil, m.Crash(c.keep, c.n)
	case "Spoil":
		return nil, m.Spoil(c.dev, c.at, c.n, c.mask)
	case "Lose":
		return nil, m.Lose(c.dev)
	case "Stray":
		return nil, m.Stray(c.dev, c.at)
	case "Fail":
		return nil, m.Fail(c.dev, c.n)
	case "Pull":
		return nil, m.Pull(c.dev)
	}
	return nil, m.Fit(c.dev)
}

// number is one below n; a wrong one now and then.
func (d *dice) number(n, wrong int) int {
	if d.below(100) < wrong {
		return nobody(n)[d.below(len(nobody(n)))]
	}
	return d.below(n)
}

// call is any one: writes, reads and flushes more often than others, wrong arguments so many times of a hundred.
func (d *dice) call(devs, sectors, wrong int) call {
	often := append(names(), "Write", "Write", "Write", "Write", "Write", "Write", "Read", "Read", "Flush", "Flush", "Lose", "Stray", "Fail", "Fit", "Spoil", "Crash")
	c := call{name: often[d.below(len(often))], dev: d.number(devs, wrong), at: d.number(sectors, wrong), mask: byte(d.below(256))}
	switch c.name {
	case "Fuse":
		c.n = d.number(9, wrong)
		if c.n > math.MaxInt/2 { // the long way counts it up
			c.n = math.MaxInt / 2
		}
	case "Fail":
		c.n = d.number(4, wrong)
	default:
		c.n = d.number(256, wrong)
	}
	c.b = d.bytes(256)
	if d.below(100) < wrong {
		c.b = d.bytes([]int{0, 1, 255, 257, 512}[d.below(5)])
	}
	c.keep = d.bools(d.below(12))
	return c
}

// TestP15_3_AllCallsAgainstTheLongWay holds each call's answer, and all that can be asked behind it, against an array as the words have it.
func TestP15_3_AllCallsAgainstTheLongWay(t *testing.T) {
	d := dice(1)
	for round := range 400 {
		devs, sectors := 2+d.below(3), 8+d.below(3)
		if round == 0 {
			devs = 8
		}
		a, s := made(t, devs, sectors), newSlow(devs, sectors)
		wrong := []int{0, 3, 30}[d.below(3)]
		for i := range 120 {
			c := d.call(devs, sectors, wrong)
			against(t, fmt.Sprint("round ", round, ", call ", i), a, s, c)
			same(t, fmt.Sprint("round ", round, ", behind call ", i, ", ", c), a, s)
		}
	}
}

// against does a call to both, and demands the same answer.
func against(t testing.TB, what string, a *array.Array, s *slow, c call) {
	t.Helper()
	want, wanted := c.do(s)
	got, e := c.do(a)
	if e != wanted || !bytes.Equal(got, want) {
		t.Fatalf("%s: %v: %s, %v; want %s, %v", what, c, text(got), e, text(want), wanted)
	}
}

// TestP15_3_TheOrderOfErrors lets each set of what stands against a call come together: the first one of its promise is told.
func TestP15_3_TheOrderOfErrors(t *testing.T) {
	for mask := range 1 << 7 {
		has := func(i int) bool { return mask>>i&1 == 1 }
		isOut, noDev, noAt, noArg, isGone, isBurnt, failing := has(0), has(1), has(2), has(3), has(4), has(5), has(6)
		wanted := func(name string) api.Errno {
			takesAt := name == "Read" || name == "Write" || name == "Spoil" || name == "Stray"
			befalls := name == "Spoil" || name == "Lose" || name == "Stray" || name == "Fail" || name == "Pull" || name == "Fit"
			switch {
			case isOut && !befalls && name != "Crash":
				return api.ErrBroken
			case name != "Fuse" && name != "Crash" && (noDev || takesAt && noAt || name == "Spoil" && noArg):
				return api.ErrRange
			case noArg && (name == "Write" || name == "Fuse" || name == "Crash" || name == "Fail"):
				return api.ErrArg
			case isGone && name != "Fuse" && name != "Crash" && name != "Fit":
				return api.ErrGone
			case isBurnt && (name == "Write" || name == "Flush"):
				return api.ErrBroken
			case failing && name == "Read":
				return api.ErrIO
			}
			return api.OK
		}
		for _, name := range names() {
			a := made(t, 3, 8)
			if failing {
				fine(t, a.Fail(1, 1))
			}
			if isGone {
				fine(t, a.Pull(1))
			}
			if isOut {
				burn(t, a, 0)
			} else if isBurnt {
				fine(t, a.Fuse(0))
			}
			c := call{name: name, dev: 1, at: 7, n: 2, b: rising()}
			if noDev {
				c.dev = 3
			}
			if noAt {
				c.at = 8
			}
			if noArg {
				c.n, c.b = -1, c.b[1:]
			}
			if b, e := c.do(a); e != wanted(name) || e != api.OK && len(b) != 0 {
				t.Errorf("%v, out %t, gone %t, burnt %t, failing %t: %v, want %v", c, isOut, isGone, isBurnt, failing, e, wanted(name))
			}
		}
	}
}

// TestP15_3_WhatIsRefusedChangesNothing does what is refused to an array in the midst of all, and goes on: neither what was loose, nor a fuse, nor what a device has, is another one for it.
func TestP15_3_WhatIsRefusedChangesNothing(t *testing.T) {
	for _, name := range names() {
		for i, wrong := range nobody(3) {
			for _, place := range []int{0, 1, 2} {
				c := call{name: name, dev: 1, at: 3, n: 1, b: rising(), keep: []bool{true}}
				switch place {
				case 0:
					c.dev = wrong
				case 1:
					c.at = nobody(8)[i]
				default:
					c.n, c.b = -1, make([]byte, 1<<10)[:max(0, min(255, wrong))]
				}
				a, s := made(t, 3, 8), newSlow(3, 8)
				for _, m := range []machine{a, s} {
					fine(t, m.Write(1, 2, of(2)), m.Flush(1), m.Write(1, 2, of(3)), m.Write(0, 2, of(4)), m.Lose(1), m.Stray(1, 6), m.Stray(0, 6), m.Fail(1, 1), m.Fail(0, 2), m.Fuse(4))
				}
				if _, e := c.do(s); e == api.OK || e == api.ErrIO {
					continue
				}
				c.do(a)
				same(t, c.String(), a, s)
				for j, next := range []call{
					{name: "Write", dev: 1, at: 3, b: of(5)},
					{name: "Write", dev: 1, at: 3, b: of(6)},
					{name: "Read", dev: 1, at: 3},
					{name: "Read", dev: 0, at: 2},
					{name: "Read", dev: 1, at: 6},
					{name: "Read", dev: 0, at: 2},
					{name: "Read", dev: 0, at: 2},
					{name: "Write", dev: 0, at: 3, b: of(7)},
					{name: "Flush", dev: 1},
					{name: "Flush", dev: 0},
					{name: "Crash", keep: []bool{false, true}, n: 9},
				} {
					what := fmt.Sprint("behind ", c, ", ", j)
					against(t, what, a, s, next)
					same(t, what, a, s)
				}
			}
		}
	}
}
