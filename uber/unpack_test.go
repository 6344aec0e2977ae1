package uber_test

import (
	"bytes"
	"slices"
	"strconv"
	"testing"

	"caulker/api"
	"caulker/uber"
)

func TestP9_2_Examples(t *testing.T) {
	refused(t, "noughts", make([]byte, 256), api.ErrMissing)
	refused(t, "none", nil, api.ErrBytes)
	refused(t, "ones", bytes.Repeat([]byte{1}, 256), api.ErrDamaged)
}

func TestP9_2_FewerOrMoreBytes(t *testing.T) {
	d := dice(2)
	longer := append(encoded(full()), make([]byte, 600)...)
	for n := range 800 {
		if n != 256 {
			what := strconv.Itoa(n) + " bytes"
			refused(t, what, make([]byte, n), api.ErrBytes)
			refused(t, what, longer[:n], api.ErrBytes)
			refused(t, what, d.bytes(n), api.ErrBytes)
		}
	}
	refused(t, "none", []byte{}, api.ErrBytes)
	refused(t, "very many", make([]byte, 1<<20), api.ErrBytes)
	refused(t, "an uberblock twice", slices.Concat(encoded(full()), encoded(full())), api.ErrBytes)
	refused(t, "an uberblock but its first byte", encoded(full())[1:], api.ErrBytes)
	refused(t, "an uberblock and room", encoded(full())[:255], api.ErrBytes)
}

func TestP9_2_WhatMayBe(t *testing.T) {
	for _, u := range edges() {
		answers(t, text(u), encoded(u), u, api.OK)
	}
}

func TestP9_2_WhatMayNotBe(t *testing.T) {
	kept := 0
	for _, u := range wrong() {
		b := encoded(u)
		if cut, e := decoded(b); e == api.OK && !same(cut, u) {
			continue // so many do not fit the room: what is left of them may be
		}
		refused(t, text(u), b, api.ErrDamaged)
		kept++
	}
	if kept < 300 {
		t.Errorf("just %d were asked", kept)
	}
}

func TestP9_2_Noughts(t *testing.T) {
	refused(t, "all noughts", make([]byte, 256), api.ErrMissing)
	refused(t, "noughts and their digest", sealed(make([]byte, 224)), api.ErrDamaged)
	for i := range 256 {
		for _, x := range []byte{1, 128, 255} {
			b := make([]byte, 256)
			b[i] = x
			refused(t, "noughts but byte "+strconv.Itoa(i), b, api.ErrDamaged)
		}
	}
	for n := range 256 {
		b := make([]byte, 256)
		copy(b, encoded(full())[:n])
		wanted := api.ErrDamaged
		if n == 0 {
			wanted = api.ErrMissing
		}
		refused(t, strconv.Itoa(n)+" of an uberblock, and noughts", b, wanted)
	}
}

func TestP9_2_NoBitMayTurn(t *testing.T) {
	d := dice(3)
	for _, u := range []api.Uber{example(), full(), least(), most()} {
		for bit := range 2048 {
			b := encoded(u)
			b[bit/8] ^= 1 << (bit % 8)
			refused(t, "bit "+strconv.Itoa(bit), b, api.ErrDamaged)
			for range 1 + d.below(6) {
				other := d.below(2048)
				b[other/8] ^= 1 << (other % 8)
			}
			if !bytes.Equal(b, encoded(u)) {
				refused(t, "some bits", b, api.ErrDamaged)
			}
		}
	}
}

func TestP9_2_NoTwoBytesMayChange(t *testing.T) {
	b := encoded(full())
	for i := range 256 {
		for j := range i {
			if b[i] == b[j] {
				continue
			}
			c := slices.Clone(b)
			c[i], c[j] = c[j], c[i]
			refused(t, strconv.Itoa(i)+" for "+strconv.Itoa(j), c, api.ErrDamaged)
		}
	}
}

func TestP9_2_OtherMarks(t *testing.T) {
	for _, mark := range []string{"CAULKER1", "CAULKER3", "CAULKER\x00", "CAULKER ", "caulker2", "\x00AULKER2", "2REKLUAC", "        ", "\x00\x00\x00\x00\x00\x00\x00\x00"} {
		for _, u := range []api.Uber{example(), full(), least(), most()} {
			h := head(u)
			copy(h, mark)
			refused(t, mark, sealed(h), api.ErrDamaged)
		}
	}
}

func TestP9_2_OtherBytesThanNoughtsBehindTheRoot(t *testing.T) {
	for _, u := range []api.Uber{example(), full(), least(), most()} {
		for i := 95; i < 224; i++ {
			for _, x := range []byte{1, 2, 127, 128, 255} {
				h := head(u)
				h[i] = x
				refused(t, "byte "+strconv.Itoa(i), sealed(h), api.ErrDamaged)
			}
		}
	}
}

func TestP9_2_OtherBytesThanNoughtsWhereNoAddressIs(t *testing.T) {
	l := full().Root.Addrs
	for n := range 4 {
		u := changed(func(u *api.Uber) { u.Root.Addrs = l[:n] })
		if n == 0 {
			u.Root = api.Pointer{}
		}
		for i := range 9 {
			h := head(u)
			h[49+i] |= 1
			unpacks(t, text(u), sealed(h))
			if i >= 3*n {
				refused(t, text(u), sealed(h), api.ErrDamaged)
			}
		}
	}
}

func TestP9_2_AnyByteSealedAnew(t *testing.T) {
	for _, u := range []api.Uber{example(), full(), least(), most()} {
		for i := range 224 {
			for x := range 256 {
				h := head(u)
				h[i] = byte(x)
				unpacks(t, "byte "+strconv.Itoa(i)+" is "+strconv.Itoa(x), sealed(h))
			}
		}
	}
}

func TestP9_2_NumbersSealedAnew(t *testing.T) {
	for _, txg := range []int{0, 1, 299, 300, 301, 1<<31 - 1, 1 << 31, 1<<31 + 1, 1<<32 - 1, 1 << 32, 1<<32 + 300, 1<<39 + 300, 1<<40 - 1} {
		for _, birth := range []int{0, 1, 299, 300, 301, 1<<31 - 1, 1 << 31, 1<<31 + 1, 1<<32 - 1} {
			for _, length := range []int{0, 300, 16383, 16384, 16385, 1 << 16, 1<<16 + 300, 1<<24 - 1} {
				u := changed(func(u *api.Uber) { u.Txg, u.Root.Birth, u.Len = txg, birth, length })
				if able(u) {
					answers(t, text(u), encoded(u), u, api.OK)
				} else {
					refused(t, text(u), encoded(u), api.ErrDamaged)
				}
			}
		}
	}
}

func TestP9_2_RootOfEachLevel(t *testing.T) {
	for level := range 256 {
		u := changed(func(u *api.Uber) { u.Root.Level = level })
		if level == 3 {
			answers(t, text(u), encoded(u), u, api.OK)
		} else {
			refused(t, text(u), encoded(u), api.ErrDamaged)
		}
	}
}

func TestP9_2_OtherDigests(t *testing.T) {
	h := head(full())
	for what, sum := range map[string][]byte{
		"noughts":                 make([]byte, 32),
		"of the mark":             sealed(h[:8])[8:],
		"of the fields":           sealed(h[:95])[95:],
		"of nothing":              sealed(nil),
		"of one byte less":        sealed(h[:223])[223:],
		"of the sector":           sealed(append(slices.Clone(h), make([]byte, 32)...))[256:],
		"of what is behind mark":  sealed(h[8:])[216:],
		"of another uberblock":    encoded(changed(func(u *api.Uber) { u.Txg++ }))[224:],
		"turned about, by bytes":  reversed(sealed(h)[224:]),
		"the digest's own digest": sealed(sealed(h)[224:])[32:],
	} {
		refused(t, what, slices.Concat(h, sum), api.ErrDamaged)
	}
}

func reversed(b []byte) []byte {
	slices.Reverse(b)
	return b
}

func TestP9_2_Anything(t *testing.T) {
	d := dice(4)
	for range 3000 {
		refused(t, "anything", d.bytes(256), api.ErrDamaged)
		refused(t, "anything, sealed", sealed(d.bytes(224)), api.ErrDamaged)
		refused(t, "anything behind the mark, sealed", sealed(append([]byte("CAULKER2"), d.bytes(216)...)), api.ErrDamaged)
		b := encoded(d.uber())
		copy(b[d.below(256):], d.bytes(1+d.below(60)))
		unpacks(t, "some bytes laid over", b)
		unpacks(t, "some bytes laid over, sealed", sealed(b[:224]))
	}
}

func TestP9_2_LeavesBytesAsTheyWere(t *testing.T) {
	for _, room := range [][]byte{encoded(full()), make([]byte, 256), bytes.Repeat([]byte{1}, 256), sealed(bytes.Repeat([]byte{7}, 224))} {
		room = append(room, bytes.Repeat([]byte{170}, 100)...)
		for _, n := range []int{0, 50, 224, 255, 256, 257} {
			was := slices.Clone(room)
			uber.Unpack(room[:n])
			if !bytes.Equal(room, was) {
				t.Fatalf("%d bytes, or the room behind them, are others", n)
			}
			for i := n; i < len(room); i++ { // spare room does not count
				room[i]++
			}
			unpacks(t, strconv.Itoa(n)+" bytes", room[:n])
			copy(room, was)
		}
	}
}

func TestP9_2_SharesNoMemory(t *testing.T) {
	b := encoded(full())
	u, _ := uber.Unpack(b)
	v, _ := uber.Unpack(b)
	clear(b)
	if !same(u, full()) {
		t.Error("it hangs on what was handed in: ", text(u))
	}
	clear(u.Root.Addrs[:cap(u.Root.Addrs)])
	if !same(v, full()) {
		t.Error("two share memory: ", text(v))
	}
	refused(t, "noughts by now", b, api.ErrMissing)
}

func TestP9_2_TheSameAnswersAgain(t *testing.T) {
	for range 3 {
		unpacks(t, "an uberblock", encoded(full()))
		refused(t, "noughts", make([]byte, 256), api.ErrMissing)
		unpacks(t, "another one", encoded(example()))
		refused(t, "none", nil, api.ErrBytes)
		refused(t, "ones", bytes.Repeat([]byte{1}, 256), api.ErrDamaged)
	}
}
