package mirror_test

import (
	"bytes"
	"crypto/sha256"
	"fmt"
	"testing"

	"caulker/api"
	"caulker/array"
	"caulker/mirror"
)

// copies has a mirror's calls that answer an error.
type copies interface {
	Put(addrs []api.Addr, b []byte) (int, api.Errno)
	Flush() (int, api.Errno)
	Get(p api.Pointer) ([]byte, api.Errno)
	Scan(p api.Pointer) (api.Scan, api.Errno)
	Restore(p api.Pointer, dev int) api.Errno
}

// told is what one of them answers.
type told struct {
	n   int
	b   string
	s   api.Scan
	err api.Errno
}

// call is one of them, with what it takes.
type call struct {
	name string
	p    api.Pointer
	b    []byte
	dev  int
}

func (c call) String() string {
	return fmt.Sprintf("%s of %v, birth %d, level %d, dev %d, %s", c.name, c.p.Addrs, c.p.Birth, c.p.Level, c.dev, text(c.b))
}

func (x told) String() string {
	return fmt.Sprintf("%d, %s, %+v, %v", x.n, text([]byte(x.b)), x.s, x.err)
}

func (c call) do(m copies) told {
	var x told
	switch c.name {
	case "Put":
		x.n, x.err = m.Put(c.p.Addrs, c.b)
	case "Flush":
		x.n, x.err = m.Flush()
	case "Get":
		var b []byte
		b, x.err = m.Get(c.p)
		x.b = string(b)
	case "Scan":
		x.s, x.err = m.Scan(c.p)
	default:
		x.err = m.Restore(c.p, c.dev)
	}
	return x
}

// blocks are few, so that what lies somewhere is often what a pointer says.
func blocks() [][]byte { return [][]byte{none, rising(), of(1), changed(of(1), 200, 4)} }

// pointer is one to one of the blocks; a wrong one now and then.
func (d *dice) pointer(devs, sectors int) api.Pointer {
	devices := []int{0, 1, 2, 3, 4, 5, 6, 7}[:devs]
	for i := range devices {
		j := d.below(devs)
		devices[i], devices[j] = devices[j], devices[i]
	}
	var addrs []api.Addr
	for i := range min(devs, 1+d.below(3)) {
		addrs = append(addrs, at(devices[i], 5+d.below(sectors-5)))
	}
	p := api.Pointer{Addrs: addrs, Birth: 1 + d.below(1<<31), Level: d.below(4), Sum: sha256.Sum256(blocks()[d.below(4)])}
	switch d.below(40) {
	case 0:
		return wrongPointers()[d.below(len(wrongPointers()))]
	case 1:
		p.Sum[d.below(32)]++
	case 2:
		p.Addrs[d.below(len(addrs))].At = d.below(5)
	case 3:
		p.Addrs[d.below(len(addrs))].Dev = devs
	}
	return p
}

func (d *dice) call(devs, sectors int) call {
	often := []string{"Put", "Put", "Put", "Flush", "Get", "Get", "Get", "Scan", "Scan", "Restore", "Restore"}
	c := call{name: often[d.below(len(often))], p: d.pointer(devs, sectors), dev: d.below(devs), b: blocks()[d.below(4)]}
	if len(c.p.Addrs) > 0 && d.below(5) > 0 {
		c.dev = c.p.Addrs[d.below(len(c.p.Addrs))].Dev
	}
	if d.below(40) == 0 {
		c.b = c.b[:255]
	}
	return c
}

// befall is something that befalls an array.
func (d *dice) befall(devs, sectors int) func(a *array.Array) api.Errno {
	dev, sector, n := d.below(devs), d.below(sectors), d.below(4)
	place, mask, keep := d.below(256), byte(1+d.below(255)), d.bools(d.below(8))
	fuse := d.below(12)
	b := blocks()[n]
	switch d.below(13) {
	case 0, 1:
		return func(a *array.Array) api.Errno { return a.Spoil(dev, sector, place, mask) }
	case 2:
		return func(a *array.Array) api.Errno { return a.Lose(dev) }
	case 3:
		return func(a *array.Array) api.Errno { return a.Stray(dev, sector) }
	case 4, 5, 6:
		return func(a *array.Array) api.Errno { return a.Fail(dev, n) }
	case 7:
		return func(a *array.Array) api.Errno { return a.Pull(dev) }
	case 8, 9:
		return func(a *array.Array) api.Errno { return a.Fit(dev) }
	case 10:
		return func(a *array.Array) api.Errno { return a.Fuse(fuse) }
	case 11:
		return func(a *array.Array) api.Errno { return a.Crash(keep, place) }
	}
	return func(a *array.Array) api.Errno { return a.Write(dev, sector, b) }
}

// same demands that all that can be asked of both mirrors, and of both arrays, is the same.
func same(t *testing.T, what string, a *array.Array, m *mirror.Mirror, s *slow) {
	t.Helper()
	if a.Loose() != s.a.Loose() || a.Steps() != s.a.Steps() {
		t.Fatalf("%s: loose %d, steps %d; want %d, %d", what, a.Loose(), a.Steps(), s.a.Loose(), s.a.Steps())
	}
	for dev := -1; dev <= a.Devs(); dev++ {
		if got, want := m.Errors(dev), s.errors[dev]; got != want {
			t.Fatalf("%s: Errors(%d): %+v, want %+v", what, dev, got, want)
		}
		if a.Up(dev) != s.a.Up(dev) {
			t.Fatalf("%s: Up(%d): %t", what, dev, a.Up(dev))
		}
		for at := range a.Sectors() {
			got, _ := a.Peek(dev, at)
			want, _ := s.a.Peek(dev, at)
			if !bytes.Equal(got, want) {
				t.Fatalf("%s: %d.%d tells %s, want %s", what, dev, at, text(got), text(want))
			}
		}
	}
}

// TestP16_7_AllCallsAgainstTheLongWay holds each call's answer, and all that can be asked behind it, against a mirror as the words have it, whatever befalls the arrays of both; a crash that comes now and then shows the order of what is loose.
func TestP16_7_AllCallsAgainstTheLongWay(t *testing.T) {
	d := dice(1)
	for round := range 600 {
		devs, sectors := 2+d.below(3), 8
		if round < 3 {
			devs, sectors = 8, 11
		}
		a, m := made(t, devs, sectors)
		b, _ := made(t, devs, sectors)
		s := newSlow(b)
		for i := range 150 {
			what := fmt.Sprint("round ", round, ", call ", i)
			if d.below(3) == 0 {
				do := d.befall(devs, sectors)
				if e, want := do(a), do(b); e != want {
					t.Fatalf("%s: %v, want %v", what, e, want)
				}
				same(t, what, a, m, s)
				continue
			}
			c := d.call(devs, sectors)
			if got, want := c.do(m), c.do(s); got != want {
				t.Fatalf("%s: %v: %v; want %v", what, c, got, want)
			}
			same(t, fmt.Sprint(what, ", ", c.name), a, m, s)
		}
	}
}
