package node_test

import (
	"bytes"
	"slices"
	"strconv"
	"testing"

	"caulker/api"
	"caulker/node"
)

func TestP5_1_CheckAtTheEdges(t *testing.T) {
	for _, x := range []struct {
		what string
		n    api.Node
		want api.Errno
	}{
		{"Level -1, holes", api.Node{Level: -1}, api.ErrArg},
		{"Level 0, holes", api.Node{}, api.ErrArg},
		{"Level 1, holes", api.Node{Level: 1}, api.OK},
		{"Level 2, holes", api.Node{Level: 2}, api.OK},
		{"Level 3, holes", api.Node{Level: 3}, api.OK},
		{"Level 4, holes", api.Node{Level: 4}, api.ErrArg},
		{"Level 257, holes", api.Node{Level: 257}, api.ErrArg},
		{"Level 0, pointers of Level -1", full(0), api.ErrArg},
		{"Level 1, pointers of Level 0", full(1), api.OK},
		{"Level 2, pointers of Level 1", full(2), api.OK},
		{"Level 3, pointers of Level 2", full(3), api.OK},
		{"Level 4, pointers of Level 3", full(4), api.ErrArg},
		{"Level 2, one pointer of Level 0", put(full(2), 1, of(0, 9)), api.ErrArg},
		{"Level 2, one pointer of Level 2", put(full(2), 1, of(2, 9)), api.ErrArg},
		{"Level 1, one pointer of Level 1", put(full(1), 1, of(1, 9)), api.ErrArg},
		{"Level 3, one pointer of Level 3", put(full(3), 1, of(3, 9)), api.ErrArg},
		{"Level 3, one pointer of Level 1", put(full(3), 1, of(1, 9)), api.ErrArg},
		{"Level 3, one pointer of Level 0", put(full(3), 1, of(0, 9)), api.ErrArg},
		{"Level 3, a hole among pointers", put(full(3), 1, api.Pointer{}), api.OK},
		{"Level 3, one pointer among holes", put(api.Node{Level: 3}, 1, of(2, 9)), api.OK},
		{"Level 2, one that is a hole but for its Level", put(full(2), 1, api.Pointer{Level: 1}), api.ErrArg},
		{"Level 1, one that is a hole but for its Birth", put(full(1), 1, api.Pointer{Birth: 1}), api.ErrArg},
		{"Level 1, one with At 4", put(full(1), 1, with(0, func(p *api.Pointer) { p.Addrs[0].At = 4 })), api.ErrArg},
	} {
		if got := node.Check(x.n); got != x.want {
			t.Errorf("%s: %v", x.what, got)
		}
	}
}

// nodes are those of all levels with each of the pointers in each place, among holes and among such as may be there.
func nodes() []api.Node {
	var l []api.Node
	for _, level := range levels() {
		l = append(l, api.Node{Level: level}, full(level))
		for _, p := range pointers() {
			for i := range api.Fan {
				l = append(l, put(api.Node{Level: level}, i, p), put(full(level), i, p))
			}
		}
	}
	return l
}

func TestP5_1_CheckEmptyAndPackOfAll(t *testing.T) {
	good := 0
	for _, n := range nodes() {
		want := api.ErrArg
		var bytesWanted []byte
		if may(n) {
			want, bytesWanted = api.OK, encoded(n)
			good++
		}
		b, e := node.Pack(n)
		if ce := node.Check(n); ce != want || e != want || !bytes.Equal(b, bytesWanted) {
			t.Fatalf("%v: %v; %v, %v", n, ce, b, e)
		}
		if got := node.Empty(n); got != empty(n) {
			t.Fatalf("Empty of %v: %v", n, got)
		}
	}
	if good < 100 {
		t.Error("too few may be:", good)
	}
}

func TestP5_1_Empty(t *testing.T) {
	for level := -1; level <= 5; level++ { // of any node, such as may not be too
		for holes := range 16 {
			n := full(level)
			for i := range api.Fan {
				if holes>>i&1 == 1 {
					n.P[i] = api.Pointer{}
				}
			}
			if got := node.Empty(n); got != (holes == 15) {
				t.Errorf("Level %d, holes %b: %v", level, holes, got)
			}
		}
		for i := range api.Fan {
			for _, p := range []api.Pointer{{Birth: 1}, {Level: 1}, {Sum: api.ID{7: 1}}, {Addrs: make([]api.Addr, 1)}} {
				if node.Empty(put(api.Node{Level: level}, i, p)) {
					t.Errorf("Level %d, %v at %d passes for a hole", level, p, i)
				}
			}
			if !node.Empty(put(api.Node{Level: level}, i, api.Pointer{Addrs: []api.Addr{}})) {
				t.Errorf("Level %d, at %d: a list of none is an address", level, i)
			}
		}
	}
}

func TestP5_1_PackExamples(t *testing.T) {
	for level := 1; level <= 3; level++ {
		b, e := node.Pack(api.Node{Level: level})
		if want := append([]byte{byte(level)}, make([]byte, 255)...); e != api.OK || !bytes.Equal(b, want) {
			t.Errorf("Level %d, four holes: %v, %v", level, b, e)
		}
	}
	first := api.Pointer{Addrs: []api.Addr{at(1, 5), at(0, 300)}, Birth: 7, Level: 2, Sum: api.ID{31: 4}}
	last := api.Pointer{Addrs: []api.Addr{at(7, 4095)}, Birth: 1 << 31, Level: 2, Sum: api.ID{5}}
	want := make([]byte, 256)
	copy(want, []byte{3, 2, 1, 0, 5, 0, 1, 44, 0, 0, 0, 0, 0, 0, 7, 2}) // the Level, and the first pointer's 47 bytes
	want[47] = 4
	copy(want[142:], []byte{1, 7, 15, 255, 0, 0, 0, 0, 0, 0, 128, 0, 0, 0, 2, 5}) // the last one's, behind two holes
	b, e := node.Pack(api.Node{Level: 3, P: [4]api.Pointer{first, {}, {}, last}})
	if e != api.OK || !bytes.Equal(b, want) {
		t.Errorf("%v, %v", b, e)
	}
}

func TestP5_1_PackPutsThePointersInOrder(t *testing.T) {
	for i := range api.Fan {
		p := of(1, 9)
		b, e := node.Pack(put(api.Node{Level: 2}, i, p))
		want := append([]byte{2}, make([]byte, 255)...)
		copy(want[1+47*i:], encoded(api.Node{P: [4]api.Pointer{p}})[1:48])
		if e != api.OK || !bytes.Equal(b, want) {
			t.Errorf("at %d: %v, %v", i, b, e)
		}
	}
}

func TestP5_1_SetOfAll(t *testing.T) {
	good := 0
	for _, level := range levels() {
		for _, n := range []api.Node{{Level: level}, full(level), put(full(level), 2, api.Pointer{})} {
			for _, p := range pointers() {
				for i := range api.Fan {
					want := put(n, i, p)
					right := may(n) && may(want)
					got, e := node.Set(n, i, p)
					holds(t, "Level "+strconv.Itoa(level)+" at "+strconv.Itoa(i), got, e, want, right)
					if right {
						good++
					}
				}
			}
		}
	}
	if good < 100 {
		t.Error("too few may be:", good)
	}
}

func TestP5_1_SetAtAPlaceThatIsNone(t *testing.T) {
	for _, i := range []int{-1 << 63, -256, -4, -1, 4, 5, 256, 1 << 32, 1<<63 - 1} {
		for level := 0; level <= 4; level++ {
			for _, p := range []api.Pointer{{}, of(level-1, 9), of(level, 9)} {
				for _, n := range []api.Node{{Level: level}, full(level)} {
					got, e := node.Set(n, i, p)
					holds(t, "at "+strconv.Itoa(i), got, e, api.Node{}, false)
				}
			}
		}
	}
}

func TestP5_1_SetMendsNone(t *testing.T) {
	for i := range api.Fan {
		for _, bad := range []api.Pointer{of(0, 9), of(2, 9), {Birth: 1}, with(1, func(p *api.Pointer) { p.Birth = 0 })} {
			for _, good := range []api.Pointer{{}, of(1, 9)} { // the node that has it there may be: the one that is handed in may not
				got, e := node.Set(put(full(2), i, bad), i, good)
				holds(t, "at "+strconv.Itoa(i), got, e, api.Node{}, false)
			}
		}
	}
}

// roomy is a node of which one is a hole, and whose lists have spare room with addresses that may not be; and its lists with that room.
func roomy(level int) (api.Node, [][]api.Addr) {
	n := api.Node{Level: level}
	var rooms [][]api.Addr
	for i := range n.P {
		room := []api.Addr{at(i, 5), at(i+1, 6), at(i+2, 7), at(-1, -1), at(i, 5)}
		rooms = append(rooms, room)
		n.P[i] = of(level-1, i)
		n.P[i].Addrs = room[:i]
	}
	n.P[0] = api.Pointer{Addrs: rooms[0][:0]}
	return n, rooms
}

func TestP5_1_WhatIsHandedInStays(t *testing.T) {
	for level := 0; level <= 4; level++ {
		n, rooms := roomy(level)
		was := copied(n)
		_, roomsWere := roomy(level)
		room := []api.Addr{at(3, 9), at(2, 8), at(3, 3), at(0, 0)}
		q := of(level-1, 9)
		q.Addrs = room[:2]
		want, bytesWanted := api.ErrArg, []byte(nil)
		if level >= 1 && level <= 3 {
			want, bytesWanted = api.OK, encoded(was)
		}
		if b, e := node.Pack(n); e != want || !bytes.Equal(b, bytesWanted) || node.Check(n) != want || node.Empty(n) {
			t.Errorf("Level %d: the spare room counts: %v, %v", level, b, e)
		}
		for i := -1; i <= api.Fan; i++ {
			for _, p := range []api.Pointer{q, {}, {Birth: 1}} {
				node.Set(n, i, p)
			}
		}
		if !same(n, was) || !slices.EqualFunc(rooms, roomsWere, slices.Equal[[]api.Addr]) {
			t.Errorf("Level %d: the node is %v of %v, was %v of %v", level, n, rooms, was, roomsWere)
		}
		if !slices.Equal(room, []api.Addr{at(3, 9), at(2, 8), at(3, 3), at(0, 0)}) {
			t.Errorf("Level %d: the pointer's room is %v", level, room)
		}
	}
}

// scribble fills all memory of a node's lists, spare room too.
func scribble(n api.Node) {
	for i := range n.P {
		room := n.P[i].Addrs[:cap(n.P[i].Addrs)]
		for j := range room {
			room[j] = at(50+i, 60+j)
		}
	}
}

// listsApart demands that no list of a node has memory of another one, spare room too; the node is scribbled over.
func listsApart(t *testing.T, n api.Node) {
	t.Helper()
	for i := range n.P {
		was := copied(n)
		scribble(api.Node{P: [4]api.Pointer{n.P[i]}})
		if was.P[i] = n.P[i]; !same(n, was) {
			t.Errorf("the list of %d has memory of another one: %v, was %v", i, n, was)
		}
	}
}

func TestP5_1_WhatSetTellsIsNewMemory(t *testing.T) {
	for i := range api.Fan {
		for _, q := range []api.Pointer{of(1, 9), {Addrs: make([]api.Addr, 0, 3)}} {
			n, rooms := roomy(2)
			_, roomsWere := roomy(2)
			want := put(n, i, q)
			want = copied(want) // q's list too
			first, _ := node.Set(n, i, q)
			second, _ := node.Set(n, i, q)
			third, _ := node.Set(first, (i+1)%4, of(1, 8))
			scribble(third)
			if !same(first, want) {
				t.Errorf("at %d: an answer shares memory with the node that it was made of: %v", i, first)
			}
			scribble(first)
			if !same(second, want) {
				t.Errorf("at %d: two answers share memory: %v", i, second)
			}
			scribble(second)
			if !slices.EqualFunc(rooms, roomsWere, slices.Equal[[]api.Addr]) || !samePointer(q, want.P[i]) {
				t.Errorf("at %d: an answer shares memory with what was handed in: %v, %v", i, rooms, q)
			}
			if slices.ContainsFunc(q.Addrs[:cap(q.Addrs)], func(a api.Addr) bool { return a.Dev >= 50 }) {
				t.Errorf("at %d: an answer has the spare room of what was handed in", i)
			}
			fourth, _ := node.Set(n, i, q)
			scribble(n)
			scribble(api.Node{P: [4]api.Pointer{q}})
			if !same(fourth, want) {
				t.Errorf("at %d: what is handed in is looked at later: %v", i, fourth)
			}
		}
	}
}

func TestP5_1_NoTwoListsOfAnAnswerAreOne(t *testing.T) {
	p := of(1, 9)
	n := api.Node{Level: 2, P: [4]api.Pointer{p, p, p, p}} // all four have one list
	for i := range api.Fan {
		got, e := node.Set(n, i, p)
		holds(t, "one list for all", got, e, copied(n), true)
		listsApart(t, got)
		if !samePointer(p, of(1, 9)) {
			t.Errorf("set at %d: the list of the argument is changed: %v", i, p)
		}
	}
}

func TestP5_1_WhatPackTellsIsNewMemory(t *testing.T) {
	for _, n := range []api.Node{{Level: 1}, full(3)} {
		first, _ := node.Pack(n)
		second, _ := node.Pack(n)
		spare := first[:cap(first)]
		for i := range spare {
			spare[i] = 99
		}
		if !bytes.Equal(second, encoded(n)) {
			t.Errorf("two answers share memory: %v", second)
		}
		if third, e := node.Pack(n); e != api.OK || !bytes.Equal(third, encoded(n)) {
			t.Errorf("behind a changed answer: %v, %v", third, e)
		}
		was := encoded(n)
		scribble(n)
		if !bytes.Equal(second, was) {
			t.Errorf("what is handed in is looked at later: %v", second)
		}
	}
}
