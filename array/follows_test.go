package array_test

import (
	"bytes"
	"testing"

	"caulker/api"
	"caulker/array"
)

// Steps, crashes and fuses come in any order, and no fault: what was flushed last, and what was laid since, are all that may be told.
func TestP15_6_WhatWasFlushedIsTold(t *testing.T) {
	type place struct{ dev, at int }
	d := dice(2)
	for range 200 {
		a := made(t, 3, 8)
		flushed, since := map[place][]byte{}, map[place][][]byte{}
		for range 150 {
			p := place{d.below(3), d.below(8)}
			switch d.below(12) {
			case 0, 1:
				if a.Flush(p.dev) == api.OK {
					for at := range 8 {
						if l := since[place{p.dev, at}]; len(l) > 0 {
							flushed[place{p.dev, at}] = l[len(l)-1]
							delete(since, place{p.dev, at})
						}
					}
				}
			case 2:
				a.Fuse(d.below(20))
			case 3:
				fine(t, a.Crash(d.bools(d.below(9)), 0)) // whole or not at all
				for q, l := range since {
					b, _ := a.Read(q.dev, q.at)
					if old := flushed[q]; !bytes.Equal(b, old) && !(old == nil && bytes.Equal(b, none)) && !has(l, b) {
						t.Fatalf("behind a crash %v tells %s", q, text(b))
					}
					flushed[q] = b
				}
				clear(since)
			default:
				b := d.bytes(256)
				if a.Write(p.dev, p.at, b) == api.OK {
					since[p] = append(since[p], b)
					tells(t, a, p.dev, p.at, b) // at once
				}
			}
			for dev := range 3 {
				for at := range 8 {
					q := place{dev, at}
					want := flushed[q]
					if l := since[q]; len(l) > 0 {
						want = l[len(l)-1]
					}
					if want == nil {
						want = none
					}
					if b, e := a.Read(dev, at); e != api.ErrBroken && !bytes.Equal(b, want) {
						t.Fatalf("%v tells %s, %v; want %s", q, text(b), e, text(want))
					}
				}
			}
		}
	}
}

func has(l [][]byte, b []byte) bool {
	for _, x := range l {
		if bytes.Equal(x, b) {
			return true
		}
	}
	return false
}

// A crash leaves of each write that was not flushed all, or nothing, but of one.
func TestP15_6_OneAloneIsTorn(t *testing.T) {
	d := dice(3)
	for range 300 {
		a := made(t, 2, 8)
		n := 1 + d.below(8)
		for i := range n { // one write a sector
			fine(t, a.Write(i%2, i, of(byte(i+1))))
		}
		keep, torn := d.bools(d.below(n+3)), d.below(256)
		fine(t, a.Crash(keep, torn))
		partly := 0
		for i := range n {
			b, e := a.Read(i%2, i)
			switch {
			case e != api.OK:
				t.Fatal(e)
			case bytes.Equal(b, of(byte(i+1))), bytes.Equal(b, none):
			case bytes.Equal(b, joined(of(byte(i+1)), none, torn)):
				partly++
			default:
				t.Fatalf("%d tells %s", i, text(b))
			}
		}
		if partly > 1 {
			t.Fatalf("%d were torn by one crash", partly)
		}
	}
}

// Two arrays to which the same is done, but that one's device 1 is befallen by faults: the other devices answer the same.
func TestP15_7_OtherDevicesAreAsTheyWere(t *testing.T) {
	d := dice(4)
	for range 200 {
		hurt, well := made(t, 3, 8), made(t, 3, 8)
		for range 80 {
			c := d.call(3, 8, 2)
			switch c.name {
			case "Fuse", "Crash": // both count the steps, and the loose writes, of all devices
				c.name = "Flush"
			case "Spoil", "Lose", "Stray", "Fail", "Pull", "Fit":
				c.dev = 1
				c.do(hurt)
				continue
			}
			b, e := c.do(hurt)
			wanted, want := c.do(well)
			if c.dev != 1 && (e != want || !bytes.Equal(b, wanted)) {
				t.Fatalf("%v: %s, %v; want %s, %v", c, text(b), e, text(wanted), want)
			}
			for _, dev := range []int{0, 2} {
				if !hurt.Up(dev) {
					t.Fatalf("behind %v %d is not up", c, dev)
				}
				for at := range 8 {
					want, _ := well.Peek(dev, at)
					tells(t, hurt, dev, at, want)
				}
			}
		}
		for _, a := range []*array.Array{hurt, well} { // what is loose of the others is so in both
			a.Fit(1)
		}
		if hurt.Loose() != well.Loose() {
			t.Fatalf("Loose %d, %d", hurt.Loose(), well.Loose())
		}
		keep := d.bools(hurt.Loose())
		fine(t, hurt.Crash(keep, 100), well.Crash(keep, 100))
		for _, dev := range []int{0, 2} {
			for at := range 8 {
				want, _ := well.Peek(dev, at)
				tells(t, hurt, dev, at, want)
			}
		}
	}
}

// Two arrays to which the same is done; the one goes out, and then steps are tried on it: behind a crash both are the same.
func TestP15_7_BeyondTheFuseNothingChanges(t *testing.T) {
	d := dice(5)
	for range 300 {
		out, well := made(t, 2, 8), made(t, 2, 8)
		for range d.below(20) {
			c := d.call(2, 8, 0)
			if c.name == "Write" || c.name == "Flush" || c.name == "Lose" || c.name == "Stray" {
				c.do(out)
				c.do(well)
			}
		}
		fine(t, out.Fuse(0))
		for tried := 0; tried < 6; {
			c := d.call(2, 8, 0)
			if c.name == "Write" || c.name == "Flush" {
				tried++
				_, e := c.do(out)
				errs(t, api.ErrBroken, e)
			}
		}
		counts(t, out, well.Loose(), well.Steps())
		keep, torn := d.bools(well.Loose()), d.below(256)
		fine(t, out.Crash(keep, torn), well.Crash(keep, torn))
		for dev := range 2 {
			for at := range 8 {
				want, _ := well.Peek(dev, at)
				tells(t, out, dev, at, want)
			}
		}
	}
}
