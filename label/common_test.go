package label_test

import (
	"bytes"
	"crypto/sha256"
	"encoding/binary"
	"math"
	"slices"
	"strconv"
	"testing"

	"caulker/api"
	"caulker/label"
)

// dice is a row of numbers that looks like chance and is the same in each run.
type dice uint64

func (d *dice) below(n int) int {
	*d = *d*6364136223846793005 + 1442695040888963407
	return int(uint64(*d) >> 33 % uint64(n))
}

func (d *dice) bytes(n int) []byte {
	b := make([]byte, n)
	for i := range b {
		b[i] = byte(d.below(256))
	}
	return b
}

func (d *dice) id() api.ID { return api.ID(d.bytes(32)) }

// with is an ID of noughts, but for one byte.
func with(at int, x byte) api.ID {
	var id api.ID
	id[at] = x
	return id
}

// label is one that may be.
func (d *dice) label() api.Label {
	l := api.Label{Pool: d.id(), Devs: 2 + d.below(7)}
	l.Dev, l.Copies = d.below(l.Devs), 1+d.below(min(3, l.Devs))
	l.Sectors, l.Life = 8+d.below(4089), d.below(1<<(1+d.below(31)))
	return l
}

// example is the chapter's l.
func example() api.Label {
	l := api.Label{Dev: 1, Devs: 3, Copies: 2, Sectors: 300, Life: 7}
	for i := range l.Pool {
		l.Pool[i] = byte(i + 1)
	}
	return l
}

// changed is the chapter's l, with something done to it.
func changed(do func(l *api.Label)) api.Label {
	l := example()
	do(&l)
	return l
}

// text is a label without all but the ends of its pool.
func text(l api.Label) string {
	s := strconv.Itoa(int(l.Pool[0])) + ".." + strconv.Itoa(int(l.Pool[31]))
	for _, n := range []int{l.Dev, l.Devs, l.Copies, l.Sectors, l.Life} {
		s += " " + strconv.Itoa(n)
	}
	return s
}

// able is whether a label may be, looked up in lists of all that each field may be.
func able(l api.Label) bool {
	copies := []int{1, 2, 3}
	if l.Devs == 2 {
		copies = []int{1, 2}
	}
	devs := []int{0, 1, 2, 3, 4, 5, 6, 7}
	return slices.Contains([]int{2, 3, 4, 5, 6, 7, 8}, l.Devs) &&
		slices.Contains(devs[:l.Devs], l.Dev) &&
		slices.Contains(copies, l.Copies) &&
		!(l.Sectors < 8) && !(l.Sectors > 4096) &&
		!(l.Life < 0) && !(l.Life > 2147483648)
}

// sealed is bytes with their digest behind them, by Go's own library.
func sealed(head []byte) []byte {
	sum := sha256.Sum256(head)
	return append(slices.Clone(head), sum[:]...)
}

// head is what is sealed of a label, whether it may be or not, of each number the bytes that it has room for.
func head(l api.Label) []byte {
	b := make([]byte, 224)
	copy(b, "CAULKER1")
	copy(b[8:], l.Pool[:])
	b[40], b[41], b[42] = byte(l.Dev), byte(l.Devs), byte(l.Copies)
	b[43], b[44] = byte(l.Sectors>>8), byte(l.Sectors)
	b[45] = byte(l.Life >> 32)
	binary.BigEndian.PutUint32(b[46:], uint32(l.Life))
	return b
}

func encoded(l api.Label) []byte { return sealed(head(l)) }

// decoded is what Unpack should answer.
func decoded(b []byte) (api.Label, api.Errno) {
	if len(b) != 256 {
		return api.Label{}, api.ErrBytes
	}
	if bytes.Equal(b, make([]byte, 256)) {
		return api.Label{}, api.ErrMissing
	}
	l := api.Label{Pool: api.ID(b[8:40]), Dev: int(b[40]), Devs: int(b[41]), Copies: int(b[42])}
	l.Sectors = int(b[43])<<8 | int(b[44])
	l.Life = int(b[45])<<32 | int(binary.BigEndian.Uint32(b[46:]))
	if string(b[:8]) != "CAULKER1" || !able(l) || !bytes.Equal(b[50:224], make([]byte, 174)) || !bytes.Equal(b, sealed(b[:224])) {
		return api.Label{}, api.ErrDamaged
	}
	return l, api.OK
}

// edges are labels that may be, at the chapter's edges.
func edges() []api.Label {
	var out []api.Label
	full := api.ID(bytes.Repeat([]byte{255}, 32))
	for _, pool := range []api.ID{{}, {0: 1}, {31: 1}, example().Pool, full} {
		for devs := 2; devs <= 8; devs++ {
			for _, dev := range []int{0, 1, devs - 1} {
				for copies := 1; copies <= min(3, devs); copies++ {
					out = append(out, api.Label{Pool: pool, Dev: dev, Devs: devs, Copies: copies, Sectors: 300, Life: 7})
				}
			}
		}
		for _, sectors := range []int{8, 9, 255, 256, 257, 4095, 4096} {
			for _, life := range []int{0, 1, 255, 256, 65536, 1<<24 - 1, 1<<31 - 1, 1 << 31} {
				out = append(out, api.Label{Pool: pool, Dev: 1, Devs: 3, Copies: 2, Sectors: sectors, Life: life})
			}
		}
	}
	return out
}

// wrong are labels that may not be, each for one reason, some for several.
func wrong() []api.Label {
	far := []int{-1, -2, -8, 9, 255, 256, 256 + 2, 1 << 16, 1<<16 + 2, 1 << 31, 1 << 32, 1<<32 + 2, 1<<40 + 2, 1 << 62, -1 << 32, math.MinInt, math.MinInt + 1, math.MaxInt}
	out := []api.Label{{}, {Pool: example().Pool}, {Devs: 2}, {Devs: 2, Copies: 1}, {Devs: 2, Sectors: 8}, {Copies: 1, Sectors: 8}}
	put := func(base api.Label, field func(l *api.Label) *int, values ...int) {
		for _, n := range values {
			l := base
			*field(&l) = n
			out = append(out, l)
		}
	}
	for _, base := range []api.Label{example(), {Devs: 2, Copies: 1, Sectors: 8}, {Pool: api.ID{5: 9}, Dev: 7, Devs: 8, Copies: 3, Sectors: 4096, Life: 1 << 31}, {Dev: 1, Devs: 2, Copies: 2, Sectors: 8}} {
		put(base, func(l *api.Label) *int { return &l.Dev }, append(far, base.Devs, base.Devs+1)...)
		put(base, func(l *api.Label) *int { return &l.Devs }, append(far, 0, 1)...)
		put(base, func(l *api.Label) *int { return &l.Copies }, append(far, 0, 4, base.Devs+1, base.Devs+2)...)
		put(base, func(l *api.Label) *int { return &l.Sectors }, append(far[:3:3], 0, 1, 7, 4097, 4098, 8192, 65535, 1<<16+300, 1<<32+300, 1<<62+300, math.MinInt, math.MaxInt)...)
		put(base, func(l *api.Label) *int { return &l.Life }, append(far[:3:3], 1<<31+1, 1<<32, 1<<40, 1<<40+7, 1<<62, math.MinInt, math.MaxInt)...)
	}
	for devs := 2; devs <= 8; devs++ {
		base := api.Label{Devs: devs, Copies: 1, Sectors: 8}
		put(base, func(l *api.Label) *int { return &l.Dev }, -1, devs, devs+1)
		put(base, func(l *api.Label) *int { return &l.Copies }, -1, 0, min(3, devs)+1, devs+1)
	}
	return slices.DeleteFunc(out, able) // some of these numbers may be, of some bases
}

// unpacks demands that Unpack answers what it should.
func unpacks(t *testing.T, what string, b []byte) {
	t.Helper()
	want, wanted := decoded(b)
	if l, e := label.Unpack(b); l != want || e != wanted {
		t.Fatalf("%s: %s, %v; want %s, %v", what, text(l), e, text(want), wanted)
	}
}

// refused demands that Unpack answers this error.
func refused(t *testing.T, what string, b []byte, wanted api.Errno) {
	t.Helper()
	if l, e := label.Unpack(b); l != (api.Label{}) || e != wanted {
		t.Fatalf("%s: %s, %v; want %v", what, text(l), e, wanted)
	}
}
