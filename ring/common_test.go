package ring_test

import (
	"bytes"
	"crypto/sha256"
	"slices"
	"strconv"
	"testing"

	"caulker/api"
	"caulker/ring"
	"caulker/uber"
)

// dice is a row of numbers that looks like chance and is the same in each run.
type dice uint64

func (d *dice) below(n int) int {
	*d = *d*6364136223846793005 + 1442695040888963407
	return int(uint64(*d) >> 33 % uint64(n))
}

func (d *dice) bytes(n int) []byte {
	b := make([]byte, n)
	for i := range b {
		b[i] = byte(d.below(256))
	}
	return b
}

func (d *dice) id() api.ID { return api.ID(d.bytes(32)) }

// uber is one that may be; every fourth one's root is a hole.
func (d *dice) uber() api.Uber {
	u := api.Uber{Txg: 1 + d.below(1<<(1+d.below(31))), Len: d.below(16385), Pool: d.id()}
	if d.below(4) > 0 {
		u.Root = api.Pointer{Birth: 1 + d.below(u.Txg), Level: 3, Sum: d.id()}
		first := d.below(8)
		for i := range 1 + d.below(3) {
			u.Root.Addrs = append(u.Root.Addrs, at((first+i)%8, 5+d.below(4091)))
		}
	}
	return u
}

// shuffle puts a list in another order.
func shuffle[T any](d *dice, l []T) {
	for i := range l {
		j := i + d.below(len(l)-i)
		l[i], l[j] = l[j], l[i]
	}
}

func at(dev, sector int) api.Addr { return api.Addr{Dev: dev, At: sector} }

// full is an uberblock with a root of three copies.
func full(txg int) api.Uber {
	root := api.Pointer{Addrs: []api.Addr{at(6, 258), at(3, 4095), at(1, 1029)}, Birth: 1, Level: 3, Sum: api.ID{3: 5, 30: 7}}
	return api.Uber{Txg: txg, Root: root, Len: 1<<13 + 5, Pool: mine()}
}

// mine is a pool no byte of which is 0.
func mine() api.ID {
	var id api.ID
	for i := range id {
		id[i] = byte(i + 1)
	}
	return id
}

// sector is an uberblock's, which may be.
func sector(u api.Uber) []byte {
	b, e := uber.Pack(u)
	if e != api.OK {
		panic("no uberblock that may be: " + text(u))
	}
	return b
}

// sealed is bytes with their digest behind them, by Go's own library.
func sealed(head []byte) []byte {
	sum := sha256.Sum256(head)
	return append(slices.Clone(head), sum[:]...)
}

// laid are slots: noughts, but for what is laid at some of them, of 0 to 3.
func laid(at map[int][]byte) [][]byte {
	slots := make([][]byte, 4)
	for i := range slots {
		slots[i] = make([]byte, 256)
		if b, is := at[i]; is {
			slots[i] = b
		}
	}
	return slots
}

// place is where, of the slots from 0 on, a Txg's uberblock is to stand.
func place(txg int) int {
	for txg > 3 {
		txg -= txg / 4 * 4
	}
	return txg
}

// copied shares no memory with what is handed in.
func copied(l []api.Uber) []api.Uber {
	l = slices.Clone(l)
	for i := range l {
		l[i].Root.Addrs = slices.Clone(l[i].Root.Addrs)
	}
	return l
}

func copies(slots [][]byte) [][]byte {
	slots = slices.Clone(slots)
	for i := range slots {
		slots[i] = slices.Clone(slots[i])
	}
	return slots
}

func text(u api.Uber) string {
	s := "Txg " + strconv.Itoa(u.Txg) + " Len " + strconv.Itoa(u.Len) + " Pool " + strconv.Itoa(int(u.Pool[0])) + ".." + strconv.Itoa(int(u.Pool[31])) + " Root"
	for _, a := range u.Root.Addrs[:min(5, len(u.Root.Addrs))] {
		s += " " + strconv.Itoa(a.Dev) + "." + strconv.Itoa(a.At)
	}
	return s + " Birth " + strconv.Itoa(u.Root.Birth) + " Level " + strconv.Itoa(u.Root.Level)
}

func texts(l []api.Uber) string {
	s := strconv.Itoa(len(l)) + " of them"
	for _, u := range l[:min(8, len(l))] {
		s += "; " + text(u)
	}
	return s
}

func same(a, b []api.Uber) bool { return slices.EqualFunc(a, b, uber.Same) }

// answers demands what Found answers.
func answers(t *testing.T, what string, slots [][]byte, pool api.ID, want []api.Uber, wanted api.Errno) {
	t.Helper()
	if l, e := ring.Found(slots, pool); !same(l, want) || e != wanted {
		t.Fatalf("%s: Found: %s, %v; want %s, %v", what, texts(l), e, texts(want), wanted)
	}
}

func uses(t *testing.T, what string, slots [][]byte, want int, wanted api.Errno) {
	t.Helper()
	if n, e := ring.Used(slots); n != want || e != wanted {
		t.Fatalf("%s: Used: %d, %v; want %d, %v", what, n, e, want, wanted)
	}
}

func bests(t *testing.T, what string, l, want []api.Uber) {
	t.Helper()
	if got := ring.Best(l); !same(got, want) {
		t.Fatalf("%s: Best: %s; want %s", what, texts(got), texts(want))
	}
}

// blankRoom demands that nothing stands behind an answer's end.
func blankRoom(t *testing.T, l []api.Uber) {
	t.Helper()
	for _, u := range l[:cap(l)][len(l):] {
		if !uber.Same(u, api.Uber{}) {
			t.Fatalf("the room behind %s has %s", texts(l), text(u))
		}
	}
}

// found is what Found should answer of four slots.
func found(slots [][]byte, pool api.ID) []api.Uber {
	var l []api.Uber
	for i, b := range slots {
		if u, e := uber.Unpack(b); e == api.OK && u.Pool == pool && place(u.Txg) == i {
			l = append(l, u)
		}
	}
	return l
}

// used is how many of some slots are in use.
func used(slots [][]byte) int {
	n := 0
	for _, b := range slots {
		if !bytes.Equal(b, make([]byte, len(b))) {
			n++
		}
	}
	return n
}

// best is what Best should answer, put in one by one: ahead of the first one that comes behind it.
func best(l []api.Uber) []api.Uber {
	var out []api.Uber
put:
	for _, u := range l {
		if uber.Check(u) != api.OK {
			continue
		}
		i := 0
		for i < len(out) && (out[i].Txg > u.Txg || out[i].Txg == u.Txg && bytes.Compare(sector(out[i]), sector(u)) <= 0) {
			if uber.Same(out[i], u) {
				continue put
			}
			i++
		}
		out = slices.Insert(out, i, u)
	}
	return out
}

// wrong are uberblocks that may not be.
func wrong() []api.Uber {
	out := []api.Uber{{}, {Txg: -1}, {Txg: 1<<31 + 1}, {Txg: 1 << 40}, {Txg: 5, Len: -1}, {Txg: 5, Len: 16385}}
	for _, do := range []func(u *api.Uber){
		func(u *api.Uber) { u.Txg = 0 },
		func(u *api.Uber) { u.Txg = 1<<31 + 5 },
		func(u *api.Uber) { u.Len = 1 << 40 },
		func(u *api.Uber) { u.Root.Birth = u.Txg + 1 },
		func(u *api.Uber) { u.Root.Level = 2 },
		func(u *api.Uber) { u.Root.Addrs = nil },
		func(u *api.Uber) { u.Root.Addrs[1].Dev = 6 },
		func(u *api.Uber) { u.Root.Addrs[2].At = 4 },
		func(u *api.Uber) { u.Root.Addrs = append(u.Root.Addrs, at(0, 9)) },
	} {
		u := full(5)
		do(&u)
		out = append(out, u)
	}
	return out
}
