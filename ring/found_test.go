package ring_test

import (
	"bytes"
	"slices"
	"strconv"
	"testing"

	"caulker/api"
	"caulker/ring"
)

func TestP10_2_Examples(t *testing.T) {
	u, v := api.Uber{Txg: 5}, api.Uber{Txg: 6}
	b, c, none := sector(u), sector(v), make([]byte, 256)
	answers(t, "none b c none", [][]byte{none, b, c, none}, api.ID{}, []api.Uber{u, v}, api.OK)
	answers(t, "b none none none", [][]byte{b, none, none, none}, api.ID{}, nil, api.OK)
	answers(t, "another pool", [][]byte{none, b, c, none}, api.ID{9: 1}, nil, api.OK)
	answers(t, "b", [][]byte{b}, api.ID{}, nil, api.ErrArg)
	uses(t, "none b c none", [][]byte{none, b, c, none}, 2, api.OK)
	uses(t, "four empty ones", [][]byte{nil, nil, nil, nil}, 0, api.OK)
	uses(t, "b", [][]byte{b}, 0, api.ErrArg)
}

// ring4 are the slots as four commits in a row leave them, the first of which is a multiple of 4.
func ring4(first int) ([][]byte, []api.Uber) {
	var slots [][]byte
	var l []api.Uber
	for i := range 4 {
		l = append(l, full(first+i))
		slots = append(slots, sector(l[i]))
	}
	return slots, l
}

func TestP10_2_OtherThanFourSlots(t *testing.T) {
	slots, l := ring4(8)
	long := slices.Repeat(slots, 3)
	for n := range len(long) + 1 {
		if n == 4 {
			continue
		}
		what := strconv.Itoa(n) + " slots"
		answers(t, what, long[:n], mine(), nil, api.ErrArg)
		uses(t, what, long[:n], 0, api.ErrArg)
		answers(t, what+", empty", make([][]byte, n), api.ID{}, nil, api.ErrArg)
		uses(t, what+", empty", make([][]byte, n), 0, api.ErrArg)
	}
	answers(t, "nil", nil, mine(), nil, api.ErrArg)
	uses(t, "nil", nil, 0, api.ErrArg)
	answers(t, "many", make([][]byte, 1<<16+4), api.ID{}, nil, api.ErrArg)
	uses(t, "many", make([][]byte, 1<<16+4), 0, api.ErrArg)
	answers(t, "four, and room", long[:4], mine(), l, api.OK) // what stands behind them does not count
	uses(t, "four, and room", long[:4], 4, api.OK)
}

func TestP10_2_AllFourInOrder(t *testing.T) {
	for _, first := range []int{4, 8, 256, 1<<31 - 4} {
		slots, l := ring4(first)
		answers(t, strconv.Itoa(first), slots, mine(), l, api.OK)
		uses(t, strconv.Itoa(first), slots, 4, api.OK)
	}
	for later := range 4 { // the order is that of the slots, whichever was written last
		slots, l := ring4(8)
		for i := range later {
			l[i] = full(12 + i)
			slots[i] = sector(l[i])
		}
		answers(t, "newer ones ahead", slots, mine(), l, api.OK)
		slots, l = ring4(16)
		for i := range later {
			l[i] = full(4 + i)
			slots[i] = sector(l[i])
		}
		answers(t, "older ones ahead", slots, mine(), l, api.OK)
	}
}

func TestP10_2_SomeOfFour(t *testing.T) {
	for mask := range 16 {
		for _, gap := range [][]byte{nil, {}, make([]byte, 256), {0}, bytes.Repeat([]byte{1}, 256), []byte("CAULKER2")} {
			slots, l := ring4(20)
			var want []api.Uber
			inUse := 0
			for i := range 4 {
				if mask>>i&1 == 1 {
					want = append(want, l[i])
					inUse++
				} else {
					slots[i] = gap
					inUse += used([][]byte{gap})
				}
			}
			answers(t, "mask "+strconv.Itoa(mask), slots, mine(), want, api.OK)
			uses(t, "mask "+strconv.Itoa(mask), slots, inUse, api.OK)
		}
	}
}

func TestP10_2_InItsOwnSlotAlone(t *testing.T) {
	for _, txg := range []int{1, 2, 3, 4, 5, 6, 7, 8, 255, 256, 257, 258, 1<<31 - 3, 1<<31 - 2, 1<<31 - 1, 1 << 31} {
		for _, u := range []api.Uber{{Txg: txg, Pool: mine()}, full(txg)} {
			for i := range 4 {
				var want []api.Uber
				if i == place(txg) {
					want = append(want, u)
				}
				answers(t, text(u)+" at "+strconv.Itoa(i), laid(map[int][]byte{i: sector(u)}), mine(), want, api.OK)
			}
			b := sector(u)
			answers(t, text(u)+" all over", [][]byte{b, b, b, b}, mine(), []api.Uber{u}, api.OK)
		}
	}
}

func TestP10_2_OfThatPoolAlone(t *testing.T) {
	for i := range 32 {
		for _, x := range []byte{1, 2, 128, 255} {
			other := mine()
			other[i] ^= x
			slots, l := ring4(4)
			answers(t, "mine", slots, mine(), l, api.OK)
			answers(t, "another one's", slots, other, nil, api.OK)
			l[2].Pool = other
			slots[2] = sector(l[2])
			answers(t, "one of another one", slots, mine(), []api.Uber{l[0], l[1], l[3]}, api.OK)
			answers(t, "another one's one", slots, other, []api.Uber{l[2]}, api.OK)
			uses(t, "of two pools", slots, 4, api.OK)
		}
	}
	ones := api.ID(bytes.Repeat([]byte{255}, 32))
	for _, pool := range []api.ID{{}, ones, {0: 1}, {31: 1}} {
		u := api.Uber{Txg: 6, Pool: pool}
		slots := laid(map[int][]byte{2: sector(u)})
		for _, asked := range []api.ID{{}, ones, {0: 1}, {31: 1}} {
			var want []api.Uber
			if asked == pool {
				want = append(want, u)
			}
			answers(t, "pool", slots, asked, want, api.OK)
		}
	}
}

func TestP10_2_ShortAndLongSectors(t *testing.T) {
	for i := range 4 {
		slots, l := ring4(12)
		want := slices.Delete(l, i, i+1)
		b := append(slots[i], make([]byte, 300)...)
		for _, n := range []int{0, 1, 8, 95, 224, 255, 257, 258, 512, 556} {
			slots[i] = b[:n]
			answers(t, strconv.Itoa(n)+" bytes", slots, mine(), want, api.OK)
			uses(t, strconv.Itoa(n)+" bytes", slots, 3+min(1, n), api.OK)
		}
		slots[i] = b[1:257]
		answers(t, "moved by a byte", slots, mine(), want, api.OK)
		slots[i] = slices.Concat(b[:256], b[:256])
		answers(t, "twice", slots, mine(), want, api.OK)
	}
}

func TestP10_2_NoBitMayTurn(t *testing.T) {
	for i := range 4 {
		slots, l := ring4(4)
		want := slices.Delete(l, i, i+1)
		for bit := range 2048 {
			slots[i][bit/8] ^= 1 << (bit % 8)
			answers(t, "bit "+strconv.Itoa(bit), slots, mine(), want, api.OK)
			uses(t, "bit "+strconv.Itoa(bit), slots, 4, api.OK)
			slots[i][bit/8] ^= 1 << (bit % 8)
		}
	}
}

func TestP10_2_WhatMayNotBe(t *testing.T) {
	for i := range 4 {
		for _, top := range [][]byte{{0, 0, 0, 0, 0}, {0, 128, 0, 0, byte(i + 4)}, {1, 0, 0, 0, byte(i)}, {1, 0, 0, 0, byte(i + 4)}, {255, 255, 255, 255, byte(252 + i)}} {
			head := sector(api.Uber{Txg: 4 + i, Pool: mine()})[:224]
			copy(head[40:], top)
			slots := laid(map[int][]byte{i: sealed(head)})
			answers(t, "Txg", slots, mine(), nil, api.OK)
			uses(t, "Txg", slots, 1, api.OK)
		}
		head := sector(full(4 + i))[:224]
		head[45] = 1
		answers(t, "Len", laid(map[int][]byte{i: sealed(head)}), mine(), nil, api.OK)
		copy(head, "CAULKER1")
		head[45] = 0
		answers(t, "a label's mark", laid(map[int][]byte{i: sealed(head)}), mine(), nil, api.OK)
		copy(head, "CAULKER2")
		answers(t, "as it was", laid(map[int][]byte{i: sealed(head)}), mine(), []api.Uber{full(4 + i)}, api.OK)
	}
}

func TestP10_2_AnyFour(t *testing.T) {
	kinds := [][]byte{nil, make([]byte, 256), make([]byte, 3), bytes.Repeat([]byte{1}, 256), {7}}
	for _, txg := range []int{4, 5, 6, 7, 9} {
		kinds = append(kinds, sector(full(txg)))
	}
	spoiled := sector(full(10))
	spoiled[100] = 1
	kinds = append(kinds, spoiled, sector(api.Uber{Txg: 5, Pool: api.ID{1}}))
	n := len(kinds)
	for pick := range n * n * n * n {
		slots := [][]byte{kinds[pick%n], kinds[pick/n%n], kinds[pick/n/n%n], kinds[pick/n/n/n]}
		answers(t, strconv.Itoa(pick), slots, mine(), found(slots, mine()), api.OK)
		uses(t, strconv.Itoa(pick), slots, used(slots), api.OK)
	}
}

func TestP10_2_UsedByOneByte(t *testing.T) {
	for i := range 4 {
		for _, n := range []int{1, 2, 3, 255, 256, 257, 1000} {
			for _, place := range []int{0, 1, n / 2, n - 2, n - 1} {
				for _, x := range []byte{1, 2, 128, 255} {
					if place < 0 || place >= n {
						continue
					}
					b := make([]byte, n)
					b[place] = x
					uses(t, "one byte", laid(map[int][]byte{i: b}), 1, api.OK)
					uses(t, "two such ones", laid(map[int][]byte{i: b, (i + 1) % 4: b}), 2, api.OK)
					uses(t, "three such ones", laid(map[int][]byte{i: b, (i + 1) % 4: b, (i + 2) % 4: b}), 3, api.OK)
					uses(t, "four such ones", [][]byte{b, b, b, b}, 4, api.OK)
				}
			}
			uses(t, "noughts", laid(map[int][]byte{i: make([]byte, n)}), 0, api.OK)
		}
	}
	uses(t, "four of many bytes", slices.Repeat([][]byte{bytes.Repeat([]byte{9}, 5000)}, 4), 4, api.OK)
}

func TestP10_2_LeavesSlotsAsTheyWere(t *testing.T) {
	for _, n := range []int{0, 1, 3, 4, 5} {
		slots, _ := ring4(4)
		slots = append(slots, sector(full(7)), make([]byte, 256))
		slots[1] = slots[1][:255]
		slots[2][100]++
		was := copies(slots)
		room := slices.Clone(slots[1][:256])
		ring.Found(slots[:n], mine())
		ring.Used(slots[:n])
		if !slices.EqualFunc(slots, was, bytes.Equal) || !bytes.Equal(slots[1][:256], room) {
			t.Fatalf("%d slots, or the room behind them, are others", n)
		}
	}
}

func TestP10_2_SpareRoomDoesNotCount(t *testing.T) {
	slots, l := ring4(4)
	for i := range 4 {
		short := slices.Clone(slots)
		short[i] = slots[i][:255]
		want := slices.Concat(l[:i], l[i+1:])
		answers(t, "a byte less", short, mine(), want, api.OK)
		short[i] = slots[i][:0]
		answers(t, "none", short, mine(), want, api.OK)
		uses(t, "none", short, 3, api.OK)
	}
}

func TestP10_2_SharesNoMemory(t *testing.T) {
	slots, want := ring4(4)
	l, _ := ring.Found(slots, mine())
	again, _ := ring.Found(slots, mine())
	for _, b := range slots {
		clear(b)
	}
	clear(slots)
	if !same(l, want) {
		t.Error("it hangs on what was handed in: ", texts(l))
	}
	for i := range l {
		addrs := l[i].Root.Addrs
		clear(addrs[:cap(addrs)])
		if !same(l[i+1:], want[i+1:]) {
			t.Error("two of one answer share memory: ", texts(l))
		}
	}
	clear(l[:cap(l)])
	if !same(again, want) {
		t.Error("two answers share memory: ", texts(again))
	}
	for i := range 4 {
		few := laid(map[int][]byte{i: sector(want[i])})
		l, _ := ring.Found(few, mine())
		blankRoom(t, l)
		l, _ = ring.Found(few, api.ID{})
		blankRoom(t, l)
	}
}

func TestP10_2_TheSameAnswersAgain(t *testing.T) {
	for range 3 {
		slots, l := ring4(4)
		answers(t, "four", slots, mine(), l, api.OK)
		uses(t, "four", slots, 4, api.OK)
		answers(t, "five", append(slots, nil), mine(), nil, api.ErrArg)
		uses(t, "five", append(slots, nil), 0, api.ErrArg)
		answers(t, "none there", make([][]byte, 4), mine(), nil, api.OK)
		uses(t, "none there", make([][]byte, 4), 0, api.OK)
	}
}
