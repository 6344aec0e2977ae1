package label_test

import (
	"bytes"
	"slices"
	"strconv"
	"testing"

	"caulker/api"
	"caulker/label"
)

func TestP8_3_WhatIsPackedIsUnpacked(t *testing.T) {
	all := edges()
	d := dice(8)
	for range 5000 {
		all = append(all, d.label())
	}
	for _, l := range all {
		b, _ := label.Pack(l)
		if back, e := label.Unpack(b); back != l || e != api.OK {
			t.Fatalf("%s: %s, %v", text(l), text(back), e)
		}
	}
}

func TestP8_3_WhatIsUnpackedIsPacked(t *testing.T) {
	d := dice(9)
	read := 0
	for range 20000 {
		h := head(d.label())
		for range d.below(3) {
			h[d.below(224)] = byte(d.below(256))
		}
		b := sealed(h)
		l, e := label.Unpack(b)
		if e != api.OK {
			continue
		}
		read++
		if again, e := label.Pack(l); !bytes.Equal(again, b) || e != api.OK {
			t.Fatalf("%s: %v", text(l), e)
		}
	}
	if read < 1000 {
		t.Errorf("just %d were read", read)
	}
}

func TestP8_3_NoBitMayTurn(t *testing.T) {
	d := dice(10)
	for _, l := range []api.Label{example(), {Devs: 2, Copies: 1, Sectors: 8}, {Pool: api.ID{255}, Dev: 7, Devs: 8, Copies: 3, Sectors: 4096, Life: 1 << 31}} {
		for bit := range 2048 {
			b, _ := label.Pack(l)
			b[bit/8] ^= 1 << (bit % 8)
			refused(t, "bit "+strconv.Itoa(bit), b, api.ErrDamaged)
			for range 1 + d.below(6) {
				other := d.below(2048)
				b[other/8] ^= 1 << (other % 8)
			}
			b[bit/8] |= 1 << (bit % 8)
			if want, _ := label.Pack(l); !bytes.Equal(b, want) {
				refused(t, "some bits", b, api.ErrDamaged)
			}
		}
	}
}

func TestP8_3_NoTwoBytesMayChange(t *testing.T) {
	b, _ := label.Pack(example())
	for i := range 256 {
		for j := range i {
			if b[i] == b[j] {
				continue
			}
			c := slices.Clone(b)
			c[i], c[j] = c[j], c[i]
			refused(t, strconv.Itoa(i)+" for "+strconv.Itoa(j), c, api.ErrDamaged)
		}
	}
}

// majority demands that a pool is that of these labels, in each of some orders.
func majority(t *testing.T, d *dice, list []api.Label, want api.ID) {
	t.Helper()
	for range 12 {
		for i := range list {
			j := i + d.below(len(list)-i)
			list[i], list[j] = list[j], list[i]
		}
		if id, is := label.Pool(list); id != want || !is {
			t.Fatalf("%s: %d..%d, %t", texts(list), id[0], id[31], is)
		}
	}
}

func TestP8_4_MoreThanHalfInWhateverOrder(t *testing.T) {
	d := dice(11)
	for n := 1; n <= 8; n++ {
		for more := n/2 + 1; more <= n; more++ {
			for _, at := range []int{0, 15, 31} {
				for _, x := range []byte{0, 1, 128, 255} {
					mine := with(at, x)
					list := slices.Repeat([]api.Label{of(mine)}, more)
					for i := range n - more {
						list = append(list, of(with(at, 100)), not(with(at, byte(i)))) // one that may not be is none of them
					}
					majority(t, &d, list, mine)
				}
			}
		}
	}
}

func TestP8_4_OrderDoesNotCount(t *testing.T) {
	d := dice(12)
	for range 500 {
		list := d.labels(1 + d.below(10))
		if want, is := pool(list); is {
			majority(t, &d, list, want)
		}
	}
}
