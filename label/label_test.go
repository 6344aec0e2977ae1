package label_test

import (
	"bytes"
	"math"
	"slices"
	"strconv"
	"testing"

	"caulker/api"
	"caulker/label"
)

func TestP8_1_Examples(t *testing.T) {
	b, e := label.Pack(example())
	if e != api.OK || len(b) != 256 || string(b[:8]) != "CAULKER1" || !bytes.Equal(b[40:50], []byte{1, 3, 2, 1, 44, 0, 0, 0, 0, 7}) {
		t.Errorf("Pack: %d bytes, %v", len(b), e)
	}
	for what, l := range map[string]api.Label{
		"Dev 3":     changed(func(l *api.Label) { l.Dev = 3 }),
		"Copies 4":  changed(func(l *api.Label) { l.Copies = 4 }),
		"Sectors 7": changed(func(l *api.Label) { l.Sectors = 7 }),
	} {
		if e := label.Check(l); e != api.ErrArg {
			t.Errorf("%s: %v", what, e)
		}
	}
	refused(t, "noughts", make([]byte, 256), api.ErrMissing)
	refused(t, "none", nil, api.ErrBytes)
	refused(t, "ones", bytes.Repeat([]byte{1}, 256), api.ErrDamaged)
}

// checked holds Check, and Pack's bytes, of a label.
func checked(t *testing.T, l api.Label, may bool) {
	t.Helper()
	want, wanted := []byte(nil), api.ErrArg
	if may {
		want, wanted = encoded(l), api.OK
	}
	if e := label.Check(l); e != wanted {
		t.Fatalf("Check(%s): %v; want %v", text(l), e, wanted)
	}
	if b, e := label.Pack(l); !bytes.Equal(b, want) || e != wanted || !may && b != nil {
		t.Fatalf("Pack(%s): %d bytes, %v; want %d, %v", text(l), len(b), e, len(want), wanted)
	}
}

func TestP8_1_WhatMayBe(t *testing.T) {
	for _, l := range edges() {
		checked(t, l, true)
	}
	d := dice(1)
	for range 5000 {
		checked(t, d.label(), true)
	}
}

func TestP8_1_WhatMayNotBe(t *testing.T) {
	for _, l := range wrong() {
		checked(t, l, false)
	}
}

func TestP8_1_DevsDevAndCopiesHangTogether(t *testing.T) {
	for devs := -2; devs <= 12; devs++ {
		for dev := -2; dev <= 12; dev++ {
			for copies := -2; copies <= 12; copies++ {
				l := changed(func(l *api.Label) { l.Devs, l.Dev, l.Copies = devs, dev, copies })
				checked(t, l, able(l))
			}
		}
	}
}

func TestP8_1_AnyPoolMayBe(t *testing.T) {
	for i := range 32 {
		for _, x := range []byte{0, 1, 127, 128, 255} {
			l := changed(func(l *api.Label) { l.Pool = with(i, x) })
			checked(t, l, true)
			unpacks(t, text(l), encoded(l))
		}
	}
}

func TestP8_1_SectorsOneByOne(t *testing.T) {
	for sectors := -10; sectors < 4200; sectors++ {
		l := changed(func(l *api.Label) { l.Sectors = sectors })
		checked(t, l, sectors >= 8 && sectors <= 4096)
	}
}

func TestP8_1_PackByteByByte(t *testing.T) {
	l := api.Label{Pool: api.ID{0: 9, 31: 8}, Dev: 7, Devs: 8, Copies: 3, Sectors: 4096, Life: 1 << 31}
	want := slices.Concat([]byte{67, 65, 85, 76, 75, 69, 82, 49, 9}, make([]byte, 30), []byte{8, 7, 8, 3, 16, 0, 0, 128, 0, 0, 0}, make([]byte, 174))
	b, e := label.Pack(l)
	if e != api.OK || !bytes.Equal(b, sealed(want)) {
		t.Errorf("%v, %v", b, e)
	}
}

func TestP8_1_PackIsNewMemory(t *testing.T) {
	l := example()
	first, _ := label.Pack(l)
	clear(first[:cap(first)])
	second, e := label.Pack(l)
	if e != api.OK || !bytes.Equal(second, encoded(l)) {
		t.Error("a second one hangs on the first one")
	}
	third, _ := label.Pack(l)
	_ = append(second, 1, 2, 3)
	clear(second[:cap(second)])
	if !bytes.Equal(third, encoded(l)) || l != example() {
		t.Error("a third one shares memory with the second one")
	}
}

func TestP8_1_UnpackOfFewerOrMoreBytes(t *testing.T) {
	d := dice(2)
	longer := append(encoded(example()), make([]byte, 600)...)
	for n := range 800 {
		if n != 256 {
			what := strconv.Itoa(n) + " bytes"
			refused(t, what, make([]byte, n), api.ErrBytes)
			refused(t, what, longer[:n], api.ErrBytes)
			refused(t, what, d.bytes(n), api.ErrBytes)
		}
	}
	refused(t, "none", []byte{}, api.ErrBytes)
	refused(t, "very many", make([]byte, 1<<20), api.ErrBytes)
	refused(t, "a label twice", slices.Concat(encoded(example()), encoded(example())), api.ErrBytes)
	refused(t, "a label but its first byte", encoded(example())[1:], api.ErrBytes)
}

func TestP8_1_UnpackWhatMayBe(t *testing.T) {
	for _, l := range edges() {
		if got, e := label.Unpack(encoded(l)); got != l || e != api.OK {
			t.Fatalf("%s: %s, %v", text(l), text(got), e)
		}
	}
}

func TestP8_1_UnpackWhatMayNotBe(t *testing.T) {
	for _, l := range wrong() {
		b := encoded(l)
		if again, e := decoded(b); e == api.OK && again != l {
			continue // so many do not fit the room: what is left of them may be
		}
		refused(t, text(l), b, api.ErrDamaged)
	}
}

func TestP8_1_UnpackNoughts(t *testing.T) {
	refused(t, "all noughts", make([]byte, 256), api.ErrMissing)
	refused(t, "noughts and their digest", sealed(make([]byte, 224)), api.ErrDamaged)
	for i := range 256 {
		for _, x := range []byte{1, 128, 255} {
			b := make([]byte, 256)
			b[i] = x
			refused(t, "noughts but byte "+strconv.Itoa(i), b, api.ErrDamaged)
		}
	}
	for n := range 256 {
		b := make([]byte, 256)
		copy(b, encoded(example())[:n])
		wanted := api.ErrDamaged
		if n == 0 {
			wanted = api.ErrMissing
		}
		refused(t, strconv.Itoa(n)+" of a label, and noughts", b, wanted)
	}
}

func TestP8_1_UnpackAnyByteSealedAnew(t *testing.T) {
	for _, l := range []api.Label{example(), {Devs: 2, Copies: 1, Sectors: 8}, {Dev: 7, Devs: 8, Copies: 3, Sectors: 4096, Life: 1 << 31}} {
		for i := range 224 {
			for x := range 256 {
				h := head(l)
				h[i] = byte(x)
				unpacks(t, "byte "+strconv.Itoa(i)+" is "+strconv.Itoa(x), sealed(h))
			}
		}
	}
}

func TestP8_1_UnpackLivesSealedAnew(t *testing.T) {
	for _, life := range []int{0, 1, 1<<31 - 1, 1 << 31, 1<<31 + 1, 1<<31 + 1<<8, 1<<32 - 1, 1 << 32, 1<<32 + 7, 1<<39 + 7, 1<<40 - 1} {
		l := changed(func(l *api.Label) { l.Life = life })
		b := encoded(l)
		unpacks(t, text(l), b)
		if got, e := label.Unpack(b); (e == api.OK) != (life <= 1<<31) || e == api.OK && got != l {
			t.Errorf("%s: %s, %v", text(l), text(got), e)
		}
	}
}

func TestP8_1_UnpackOtherDigests(t *testing.T) {
	h := head(example())
	for what, sum := range map[string][]byte{
		"noughts":                 make([]byte, 32),
		"of the mark":             sealed(h[:8])[8:],
		"of the fields":           sealed(h[:50])[50:],
		"of nothing":              sealed(nil),
		"of one byte less":        sealed(h[:223])[223:],
		"of the sector":           sealed(append(slices.Clone(h), make([]byte, 32)...))[256:],
		"of what is behind mark":  sealed(h[8:])[216:],
		"of another label":        sealed(head(changed(func(l *api.Label) { l.Life++ })))[224:],
		"turned about, by bytes":  reversed(sealed(h)[224:]),
		"the digest's own digest": sealed(sealed(h)[224:])[32:],
	} {
		refused(t, what, slices.Concat(h, sum), api.ErrDamaged)
	}
}

func reversed(b []byte) []byte {
	slices.Reverse(b)
	return b
}

func TestP8_1_UnpackOfAnything(t *testing.T) {
	d := dice(3)
	for range 2000 {
		refused(t, "anything", d.bytes(256), api.ErrDamaged)
		refused(t, "anything, sealed", sealed(d.bytes(224)), api.ErrDamaged)
		b := encoded(d.label())
		copy(b[d.below(256):], d.bytes(1+d.below(60)))
		unpacks(t, "some bytes laid over", b)
		unpacks(t, "some bytes laid over, sealed", sealed(b[:224]))
	}
}

func TestP8_1_UnpackLeavesBytesAsTheyWere(t *testing.T) {
	for _, room := range [][]byte{encoded(example()), make([]byte, 256), bytes.Repeat([]byte{1}, 256), sealed(bytes.Repeat([]byte{7}, 224))} {
		room = append(room, bytes.Repeat([]byte{170}, 100)...)
		for _, n := range []int{0, 50, 224, 255, 256, 257} {
			was := slices.Clone(room)
			label.Unpack(room[:n])
			if !bytes.Equal(room, was) {
				t.Fatalf("%d bytes, or the room behind them, are others", n)
			}
		}
	}
}

func TestP8_1_UnpackKeepsNothing(t *testing.T) {
	b := encoded(example())
	l, _ := label.Unpack(b)
	clear(b)
	if l != example() {
		t.Error(text(l))
	}
	refused(t, "noughts by now", b, api.ErrMissing)
}

func TestP8_1_TheSameAnswersAgain(t *testing.T) {
	far := changed(func(l *api.Label) { l.Devs, l.Dev = math.MinInt, math.MaxInt })
	for range 3 {
		checked(t, example(), true)
		checked(t, far, false)
		unpacks(t, "a label", encoded(example()))
		refused(t, "noughts", make([]byte, 256), api.ErrMissing)
	}
}
