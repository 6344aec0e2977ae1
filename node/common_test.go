package node_test

import (
	"bytes"
	"encoding/binary"
	"math"
	"slices"
	"testing"

	"caulker/api"
)

// dice is a row of numbers that looks like chance and is the same in each run.
type dice uint64

func (d *dice) below(n int) int {
	*d = *d*6364136223846793005 + 1442695040888963407
	return int(uint64(*d) >> 33 % uint64(n))
}

func (d *dice) bytes(n int) []byte {
	b := make([]byte, n)
	for i := range b {
		b[i] = byte(d.below(256))
	}
	return b
}

// pointer is one of a level, that may be; every fourth one is a hole.
func (d *dice) pointer(level int) api.Pointer {
	if d.below(4) == 0 {
		return api.Pointer{}
	}
	p := api.Pointer{Birth: 1 + d.below(1<<31), Level: level, Sum: api.ID(d.bytes(32))}
	devs := []int{0, 1, 2, 3, 4, 5, 6, 7}
	for range 1 + d.below(3) {
		i := d.below(len(devs))
		p.Addrs = append(p.Addrs, at(devs[i], 5+d.below(4091)))
		devs = slices.Delete(devs, i, i+1)
	}
	return p
}

// node is one that may be.
func (d *dice) node() api.Node {
	n := api.Node{Level: 1 + d.below(3)}
	for i := range n.P {
		n.P[i] = d.pointer(n.Level - 1)
	}
	return n
}

func at(dev, sector int) api.Addr { return api.Addr{Dev: dev, At: sector} }

// of is a pointer of a level, whose bytes have the number x in them.
func of(level, x int) api.Pointer {
	return api.Pointer{Addrs: []api.Addr{at(1, 300+x), at(0, 5)}, Birth: 7 + x, Level: level, Sum: api.ID{byte(x), 31: 255}}
}

// with is a pointer of a level, with something done to it.
func with(level int, do func(p *api.Pointer)) api.Pointer {
	p := of(level, 0)
	do(&p)
	return p
}

// full is a node of a level with four unlike pointers.
func full(level int) api.Node {
	n := api.Node{Level: level}
	for i := range n.P {
		n.P[i] = of(level-1, i)
	}
	return n
}

// put is a node with another pointer, and no memory of n's.
func put(n api.Node, i int, p api.Pointer) api.Node {
	n = copied(n)
	n.P[i] = p
	return n
}

// copied shares no memory with n, and has all that n has, but for spare room.
func copied(n api.Node) api.Node {
	for i := range n.P {
		n.P[i].Addrs = append([]api.Addr(nil), n.P[i].Addrs...)
	}
	return n
}

// samePointer is whether two pointers are the same, found the long way.
func samePointer(a, b api.Pointer) bool {
	if len(a.Addrs) != len(b.Addrs) {
		return false
	}
	for i := range a.Addrs {
		if a.Addrs[i].Dev != b.Addrs[i].Dev || a.Addrs[i].At != b.Addrs[i].At {
			return false
		}
	}
	return a.Birth == b.Birth && a.Level == b.Level && a.Sum == b.Sum
}

func same(a, b api.Node) bool {
	return a.Level == b.Level && samePointer(a.P[0], b.P[0]) && samePointer(a.P[1], b.P[1]) && samePointer(a.P[2], b.P[2]) && samePointer(a.P[3], b.P[3])
}

func hole(p api.Pointer) bool { return samePointer(p, api.Pointer{}) }

// mayPointer is whether a pointer may be and is no hole, as chapter 4 has it.
func mayPointer(p api.Pointer) bool {
	if n := len(p.Addrs); n != 1 && n != 2 && n != 3 {
		return false
	}
	devices := map[int]bool{}
	for _, a := range p.Addrs {
		if a.Dev < 0 || a.Dev > 7 || a.At < 5 || a.At > 4095 || devices[a.Dev] {
			return false
		}
		devices[a.Dev] = true
	}
	return p.Birth >= 1 && p.Birth <= 2147483648 && p.Level >= 0 && p.Level <= 3
}

// may is whether a node may be, as the chapter's words have it.
func may(n api.Node) bool {
	if n.Level != 1 && n.Level != 2 && n.Level != 3 {
		return false
	}
	for i := range n.P {
		if !hole(n.P[i]) && !(mayPointer(n.P[i]) && n.P[i].Level+1 == n.Level) {
			return false
		}
	}
	return true
}

func empty(n api.Node) bool {
	return hole(n.P[0]) && hole(n.P[1]) && hole(n.P[2]) && hole(n.P[3])
}

// encoded is the sector of a node; its pointers have at most three addresses.
func encoded(n api.Node) []byte {
	b := make([]byte, 256)
	b[0] = byte(n.Level)
	for i, p := range n.P {
		part := b[1+47*i:]
		part[0] = byte(len(p.Addrs))
		for j, a := range p.Addrs {
			part[1+3*j] = byte(a.Dev)
			binary.BigEndian.PutUint16(part[2+3*j:], uint16(a.At))
		}
		binary.BigEndian.PutUint32(part[10:], uint32(p.Birth))
		part[14] = byte(p.Level)
		copy(part[15:47], p.Sum[:])
	}
	return b
}

// decoded is the node of 256 bytes, and whether it may be and these are its bytes.
func decoded(b []byte) (api.Node, bool) {
	n := api.Node{Level: int(b[0])}
	for i := range n.P {
		part := b[1+47*i:]
		p := api.Pointer{Birth: int(binary.BigEndian.Uint32(part[10:])), Level: int(part[14]), Sum: api.ID(part[15:47])}
		for j := range min(int(part[0]), 3) {
			p.Addrs = append(p.Addrs, at(int(part[1+3*j]), int(part[2+3*j])*256+int(part[3+3*j])))
		}
		n.P[i] = p
	}
	if !may(n) || !bytes.Equal(encoded(n), b) {
		return api.Node{}, false
	}
	return n, true
}

// levels are numbers about which the limits of a level stand, and such as are one of them as a byte.
func levels() []int {
	return []int{math.MinInt, -255, -1, 0, 1, 2, 3, 4, 255, 256, 257, 258, 1 << 32, 1<<32 + 1, math.MaxInt}
}

// pointers are such as a node of some level may have, and such as none may.
func pointers() []api.Pointer {
	l := []api.Pointer{
		{}, {Addrs: []api.Addr{}}, {Addrs: make([]api.Addr, 0, 3)},
		{Birth: 1}, {Level: 1}, {Level: 2}, {Level: -1}, {Sum: api.ID{31: 1}}, {Birth: 7, Level: 2, Sum: api.ID{9}},
		{Addrs: make([]api.Addr, 1)}, {Addrs: make([]api.Addr, 257)},
	}
	for _, level := range levels() {
		l = append(l, of(level, 0),
			with(level, func(p *api.Pointer) { p.Addrs = p.Addrs[:1] }),
			with(level, func(p *api.Pointer) { p.Addrs = append(p.Addrs, at(7, 4095)) }),
			with(level, func(p *api.Pointer) { p.Addrs = append(p.Addrs, at(2, 5), at(3, 5)) }),
			with(level, func(p *api.Pointer) { p.Addrs = nil }),
			with(level, func(p *api.Pointer) { p.Addrs[1].Dev = 1 }),
			with(level, func(p *api.Pointer) { p.Addrs[1].Dev = 8 }),
			with(level, func(p *api.Pointer) { p.Addrs[0].At = 4 }),
			with(level, func(p *api.Pointer) { p.Addrs[0].At = 4096 }),
			with(level, func(p *api.Pointer) { p.Birth = 0 }),
			with(level, func(p *api.Pointer) { p.Birth = 1 << 31 }),
			with(level, func(p *api.Pointer) { p.Birth = 1<<31 + 1 }))
	}
	return l
}

// holds demands the answer of a call that tells a node: want and OK; or, if may is false, no node and ErrArg.
func holds(t *testing.T, what string, n api.Node, e api.Errno, want api.Node, may bool) {
	t.Helper()
	wanted := api.OK
	if !may {
		want, wanted = api.Node{}, api.ErrArg
	}
	if e != wanted || !same(n, want) {
		t.Fatalf("%s: %v, %v; want %v, %v", what, n, e, want, wanted)
	}
}
