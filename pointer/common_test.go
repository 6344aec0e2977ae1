package pointer_test

import (
	"encoding/binary"
	"math"
	"slices"
	"testing"

	"caulker/api"
)

// dice is a row of numbers that looks like chance and is the same in each run.
type dice uint64

func (d *dice) below(n int) int {
	*d = *d*6364136223846793005 + 1442695040888963407
	return int(uint64(*d) >> 33 % uint64(n))
}

func (d *dice) bytes(n int) []byte {
	b := make([]byte, n)
	for i := range b {
		b[i] = byte(d.below(256))
	}
	return b
}

func (d *dice) id() api.ID { return api.ID(d.bytes(32)) }

// pointer is one that may be; every eighth one is a hole.
func (d *dice) pointer() api.Pointer {
	if d.below(8) == 0 {
		return api.Pointer{}
	}
	p := api.Pointer{Birth: 1 + d.below(1<<31), Level: d.below(4), Sum: d.id()}
	devs := []int{0, 1, 2, 3, 4, 5, 6, 7}
	for range 1 + d.below(3) {
		i := d.below(len(devs))
		p.Addrs = append(p.Addrs, at(devs[i], 5+d.below(4091)))
		devs = slices.Delete(devs, i, i+1)
	}
	return p
}

func at(dev, sector int) api.Addr { return api.Addr{Dev: dev, At: sector} }

// example is the chapter's p.
func example() api.Pointer {
	return api.Pointer{Addrs: []api.Addr{at(1, 5), at(0, 300)}, Birth: 7, Level: 2}
}

// changed is the chapter's p, with something done to it.
func changed(do func(p *api.Pointer)) api.Pointer {
	p := example()
	do(&p)
	return p
}

// with is an ID of noughts, but for one byte.
func with(i int, x byte) api.ID {
	var id api.ID
	id[i] = x
	return id
}

// copied shares no memory with p.
func copied(p api.Pointer) api.Pointer {
	p.Addrs = append([]api.Addr(nil), p.Addrs...)
	return p
}

// same is what Same should tell, found the long way.
func same(a, b api.Pointer) bool {
	if len(a.Addrs) != len(b.Addrs) {
		return false
	}
	for i := range a.Addrs {
		if a.Addrs[i].Dev != b.Addrs[i].Dev || a.Addrs[i].At != b.Addrs[i].At {
			return false
		}
	}
	for i := range a.Sum {
		if a.Sum[i] != b.Sum[i] {
			return false
		}
	}
	return a.Birth == b.Birth && a.Level == b.Level
}

// like is what Like should tell.
func like(a, b api.Pointer) bool {
	either := len(a.Addrs) > 0 && len(b.Addrs) > 0 || len(a.Addrs) == 0 && len(b.Addrs) == 0
	a.Addrs, b.Addrs = nil, nil
	return either && same(a, b)
}

func hole(p api.Pointer) bool { return same(p, api.Pointer{}) }

// may is whether a pointer may be, as the chapter's words have it.
func may(p api.Pointer) bool {
	if hole(p) {
		return true
	}
	if n := len(p.Addrs); n != 1 && n != 2 && n != 3 {
		return false
	}
	devices := map[int]bool{}
	for _, a := range p.Addrs {
		if a.Dev < 0 || a.Dev > 7 || a.At < 5 || a.At > 4095 || devices[a.Dev] {
			return false
		}
		devices[a.Dev] = true
	}
	return p.Birth >= 1 && p.Birth <= 2147483648 && p.Level >= 0 && p.Level <= 3
}

// encoded is the bytes of a pointer that may be.
func encoded(p api.Pointer) []byte {
	b := make([]byte, 47)
	b[0] = byte(len(p.Addrs))
	for i, a := range p.Addrs {
		b[1+3*i] = byte(a.Dev)
		binary.BigEndian.PutUint16(b[2+3*i:], uint16(a.At))
	}
	binary.BigEndian.PutUint32(b[10:], uint32(p.Birth))
	b[14] = byte(p.Level)
	copy(b[15:], p.Sum[:])
	return b
}

// decoded is the pointer of 47 bytes, and whether these are its bytes and it may be.
func decoded(b []byte) (api.Pointer, bool) {
	p := api.Pointer{Birth: int(binary.BigEndian.Uint32(b[10:14])), Level: int(b[14]), Sum: api.ID(b[15:47])}
	if b[0] > 3 {
		return api.Pointer{}, false
	}
	for i := range 3 {
		dev, sector := int(b[1+3*i]), int(b[2+3*i])*256+int(b[3+3*i])
		if i < int(b[0]) {
			p.Addrs = append(p.Addrs, at(dev, sector))
		} else if dev+sector != 0 {
			return api.Pointer{}, false
		}
	}
	if !may(p) {
		return api.Pointer{}, false
	}
	return p, true
}

// lists are addresses at the edges: of how many there are, of Dev, of At, and of two on one device, at each place.
func lists() [][]api.Addr {
	out := [][]api.Addr{nil, {}}
	for _, dev := range []int{math.MinInt, -1, 0, 1, 7, 8, 256, 263, math.MaxInt} { // 256 is 0 as one byte, 263 is 7
		out = append(out, []api.Addr{at(dev, 5)})
		for i := range 3 {
			l := []api.Addr{at(4, 5), at(5, 6), at(6, 7)}
			l[i].Dev = dev
			out = append(out, l)
		}
	}
	for _, sector := range []int{math.MinInt, -5, -1, 0, 4, 5, 255, 256, 4095, 4096, 65535, 65541, math.MaxInt} { // 65541 is 5 as two bytes
		out = append(out, []api.Addr{at(3, sector)})
		for i := range 3 {
			l := []api.Addr{at(7, 4095), at(0, 5), at(6, 7)}
			l[i].At = sector
			out = append(out, l)
		}
	}
	for _, sector := range []int{5, 6} { // the same address, and another one of its device
		out = append(out,
			[]api.Addr{at(2, 5), at(2, sector)},
			[]api.Addr{at(2, 5), at(2, sector), at(3, 7)},
			[]api.Addr{at(2, 5), at(3, 7), at(2, sector)},
			[]api.Addr{at(3, 7), at(2, 5), at(2, sector)})
	}
	four := []api.Addr{at(0, 5), at(1, 5), at(2, 5), at(3, 5)}
	for i := range 5 {
		out = append(out, slices.Clone(four[:i]), make([]api.Addr, i))
	}
	many := make([]api.Addr, 257) // 257 is 1 as one byte
	for i := range many {
		many[i] = at(i, 5)
	}
	return append(out, many, many[:256])
}

// edges are pointers about which the limits stand, such as may be and such as may not.
func edges() []api.Pointer {
	var out []api.Pointer
	births := []int{math.MinInt, -1, 0, 1, 2, 1<<31 - 1, 1 << 31, 1<<31 + 1, 1 << 32, 1<<32 + 1, math.MaxInt} // 2^32 and one more are 0 and 1 as four bytes
	levels := []int{math.MinInt, -1, 0, 1, 3, 4, 256, math.MaxInt}
	sums := []api.ID{{}, with(0, 1), with(31, 255)}
	for _, l := range lists() {
		for _, birth := range births {
			for _, level := range levels {
				for _, sum := range sums {
					out = append(out, api.Pointer{Addrs: l, Birth: birth, Level: level, Sum: sum})
				}
			}
		}
	}
	return out
}

func refused(t *testing.T, what string, p api.Pointer, f, want api.Fault) {
	t.Helper()
	if f != want || !hole(p) {
		t.Errorf("%s: %v, %v; want %v", what, p, f, want)
	}
}
