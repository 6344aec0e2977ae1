package mirror_test

import (
	"crypto/sha256"
	"testing"

	"caulker/api"
	"caulker/array"
)

// Whatever befalls the devices: what Get tells has the digest that was asked for.
func TestP16_6_NeverAWrongByte(t *testing.T) {
	d := dice(2)
	told, lost := 0, 0
	for range 500 {
		devs := 2 + d.below(7)
		a, m := made(t, devs, 8)
		for range 120 {
			if d.below(2) == 0 {
				d.befall(devs, 8)(a)
				continue
			}
			c := d.call(devs, 8)
			if x := c.do(m); c.name == "Get" && x.err == api.OK {
				told++
				if sha256.Sum256([]byte(x.b)) != c.p.Sum {
					t.Fatalf("Get(%v) tells %s", c.p, text([]byte(x.b)))
				}
			} else if c.name == "Get" {
				lost++
				if x.b != "" {
					t.Fatalf("Get(%v): %s, %v", c.p, text([]byte(x.b)), x.err)
				}
			}
		}
	}
	if told < 1000 || lost < 1000 {
		t.Errorf("%d were told, %d were not", told, lost)
	}
}

// copyOf is whether a copy is good, and whether it can be read, by what has befallen its device.
func copyOf(a *array.Array, p api.Pointer, i int, failing map[int]int) (isGood, readable bool) {
	x := p.Addrs[i]
	b, is := a.Peek(x.Dev, x.At)
	return is && sha256.Sum256(b) == p.Sum, is && failing[x.Dev] == 0
}

// hurt makes an array on which a block's copies are hurt in any way; it tells which devices have failures.
func hurt(t *testing.T, d *dice, a *array.Array, p api.Pointer) map[int]int {
	t.Helper()
	failing := map[int]int{}
	for _, x := range p.Addrs {
		switch d.below(6) {
		case 0:
			fine(t, a.Spoil(x.Dev, x.At, d.below(256), byte(1+d.below(255))))
		case 1:
			failing[x.Dev] = 1 + d.below(3)
			fine(t, a.Fail(x.Dev, failing[x.Dev]))
			fine(t, a.Spoil(x.Dev, x.At, 0, byte(d.below(2))))
		case 2:
			fine(t, a.Pull(x.Dev))
		case 3:
			fine(t, a.Fit(x.Dev))
		}
	}
	return failing
}

// As long as one copy is good, and can be read, its bytes are told; behind a Get those that were looked at, and behind a Scan all, are good, or can't be read, or the array took no more.
func TestP16_7_Mended(t *testing.T) {
	d := dice(3)
	for round := range 4000 {
		a, m := made(t, 8, 9)
		p := d.pointer(8, 9)
		p.Birth, p.Level = 1, 0
		block := rising()
		p.Sum = sha256.Sum256(block)
		if _, e := m.Put(p.Addrs, block); e != api.OK {
			continue // one of the wrong ones
		}
		flushes(t, m, 8, api.OK)
		failing := hurt(t, &d, a, p)
		first := -1
		for i := range p.Addrs {
			if isGood, readable := copyOf(a, p, i, failing); isGood && readable && first < 0 {
				first = i
			}
		}
		refusing := round%2 == 0
		if refusing {
			fine(t, a.Fuse(d.below(3)))
		}
		looked := first + 1
		if round%4 < 2 {
			if first >= 0 {
				gets(t, m, p, block)
			} else if b, e := m.Get(p); e == api.OK || len(b) > 0 {
				t.Fatalf("Get: %s, %v", text(b), e)
			}
		} else {
			s, e := m.Scan(p)
			if fine(t, e); (s.Good > 0) != (first >= 0) || s.Good+s.Healed+s.Bad+s.Lost != len(p.Addrs) {
				t.Fatalf("Scan: %+v, first %d of %d", s, first, len(p.Addrs))
			}
			looked = len(p.Addrs)
		}
		if first < 0 {
			continue
		}
		out := refusing && !up(a)
		for i := range looked {
			isGood, readable := copyOf(a, p, i, failing)
			if !isGood && readable && !out {
				t.Fatalf("round %d: copy %d of %v is bad still, failing %v", round, i, p.Addrs, failing)
			}
		}
	}
}

// up is whether an array has a device that is up.
func up(a *array.Array) bool {
	for dev := range a.Devs() {
		if a.Up(dev) {
			return true
		}
	}
	return false
}

// A block is told as long as one copy is left, whichever it is, and mended from it.
func TestP16_7_OneGoodCopyIsEnough(t *testing.T) {
	for left := range 3 {
		a, m, p := laid(t, []state{good, good, good})
		for i, x := range p.Addrs {
			if i != left {
				fine(t, a.Spoil(x.Dev, x.At, 9, 9))
			}
		}
		gets(t, m, p, rising())
		scans(t, m, p, api.Scan{Good: 1 + left, Healed: 2 - left})
		scans(t, m, p, api.Scan{Good: 3})
		flushes(t, m, 4, api.OK)
		fine(t, a.Crash(nil, 0))
		for _, x := range p.Addrs {
			tells(t, a, x, rising())
		}
		for _, x := range p.Addrs[1:] {
			fine(t, a.Pull(x.Dev))
		}
		gets(t, m, p, rising())
	}
}

// What was put and flushed on several devices is told, whatever a crash leaves of what is put behind it elsewhere.
func TestP16_7_BehindACrash(t *testing.T) {
	d := dice(4)
	for range 300 {
		a, m := made(t, 3, 8)
		old, young := to(of(1), at(0, 5), at(2, 6)), to(of(2), at(1, 5), at(0, 6))
		puts(t, m, of(1), 2, old.Addrs...)
		flushes(t, m, 3, api.OK)
		fine(t, a.Fuse(d.below(6)))
		_, e := m.Put(young.Addrs, of(2))
		_, f := m.Flush()
		fine(t, a.Crash(d.bools(d.below(3)), d.below(256)))
		gets(t, m, old, of(1))
		scans(t, m, old, api.Scan{Good: 2})
		if e == api.OK && f == api.OK {
			gets(t, m, young, of(2))
			scans(t, m, young, api.Scan{Good: 2})
		} else if b, e := m.Get(young); e == api.OK && sha256.Sum256(b) != young.Sum {
			t.Fatalf("Get tells %s", text(b))
		}
	}
}
