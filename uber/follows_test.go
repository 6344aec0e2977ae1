package uber_test

import (
	"bytes"
	"slices"
	"strconv"
	"testing"

	"caulker/api"
	"caulker/uber"
)

func TestP9_3_WhatIsPackedIsUnpacked(t *testing.T) {
	all := edges()
	d := dice(5)
	for range 5000 {
		all = append(all, d.uber())
	}
	for _, u := range all {
		b, e := uber.Pack(u)
		if e != api.OK {
			t.Fatalf("%s: %v", text(u), e)
		}
		back, e := uber.Unpack(b)
		if !same(back, u) || !uber.Same(back, u) || e != api.OK {
			t.Fatalf("%s: %s, %v", text(u), text(back), e)
		}
	}
}

func TestP9_3_WhatIsUnpackedIsPacked(t *testing.T) {
	d := dice(6)
	read := 0
	for range 20000 {
		h := head(d.uber())
		for range d.below(3) {
			h[d.below(224)] = byte(d.below(256))
		}
		b := sealed(h)
		u, e := uber.Unpack(b)
		if e != api.OK {
			continue
		}
		read++
		if again, e := uber.Pack(u); !bytes.Equal(again, b) || e != api.OK {
			t.Fatalf("%s: %v", text(u), e)
		}
	}
	if read < 1000 {
		t.Errorf("just %d were read", read)
	}
}

// torn demands of a sector whose first bytes are a's and the others b's, at each place, that it is a's, b's, or nobody's.
func torn(t *testing.T, a, b []byte) {
	t.Helper()
	for n := range 257 {
		c := slices.Concat(a[:n], b[n:])
		want, wanted := api.Uber{}, api.ErrDamaged
		if bytes.Equal(c, a) {
			want, wanted = decoded(a)
		} else if bytes.Equal(c, b) {
			want, wanted = decoded(b)
		}
		answers(t, "torn behind "+strconv.Itoa(n), c, want, wanted)
	}
}

func TestP9_3_OfATornOneNoThirdIsTold(t *testing.T) {
	all := []api.Uber{example(), full(), least(), most()}
	for _, turn := range turns() {
		u := full()
		turn(&u)
		if able(u) {
			all = append(all, u)
		}
	}
	d := dice(7)
	for range 20 {
		all = append(all, d.uber())
	}
	for i, u := range all {
		torn(t, encoded(u), encoded(all[(i+1)%len(all)]))
		torn(t, encoded(full()), encoded(u))
		torn(t, encoded(u), encoded(full()))
	}
}

func TestP9_3_TornWithWhatIsNoUberblock(t *testing.T) {
	d := dice(8)
	others := [][]byte{make([]byte, 256), bytes.Repeat([]byte{1}, 256), bytes.Repeat([]byte{255}, 256), d.bytes(256), sealed(d.bytes(224)), sealed(make([]byte, 224))}
	for _, u := range []api.Uber{example(), full(), least(), most()} {
		label := head(u)
		copy(label, "CAULKER1")
		for _, other := range append(others, sealed(label)) {
			torn(t, encoded(u), other)
			torn(t, other, encoded(u))
		}
	}
}
