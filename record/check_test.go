package record_test

import (
	"bytes"
	"fmt"
	"slices"
	"strings"
	"testing"

	"caulker/api"
	"caulker/record"
)

func TestP12_1_Examples(t *testing.T) {
	b, e := record.Bytes(none())
	if want := []byte{0, 0, 0, 2, 0, 0, 0, 0, 0, 0, 0, 0, 0, 0, 0, 2, 0, 0, 0, 0, 0, 0, 0, 0}; e != api.OK || !bytes.Equal(b, want) {
		t.Errorf("t: %v, %v", b, e)
	}
	want := slices.Concat([]byte{0, 0, 0, 2, 1, 0, 0, 0, 1, 1, 'a', 1, 1}, make([]byte, 47), []byte{0, 0, 0, 1}, make([]byte, 20), []byte{2}, make([]byte, 8))
	if b, e := record.Bytes(one()); e != api.OK || len(b) != 93 || !bytes.Equal(b, want) {
		t.Errorf("u: %v, %v", b, e)
	}
	for what, do := range map[string]func(t *api.Table){
		"Lives 0":    func(t *api.Table) { t.Lives = []int{0} },
		"Next 1":     func(t *api.Table) { t.Next = 1 },
		"the Name A": func(t *api.Table) { t.Records[0].Name = "A" },
		"Size 65":    func(t *api.Table) { t.Records[0].Size = 65 },
	} {
		u := one()
		do(&u)
		checked(t, what, u, false)
	}
}

func TestP12_1_BytesOneByOne(t *testing.T) {
	x := api.Table{
		Next: 0x01020304,
		Records: []api.Record{
			{ID: 0x00050607, Name: "ab", Kind: 1, Size: 8, Made: 0x090a0b0c, Origin: 0x00150617, Quota: 13, Reserve: 14, Root: api.Pointer{Addrs: []api.Addr{at(7, 0x0abc)}, Birth: 0x0f101112, Level: 3, Sum: api.ID{0: 99, 31: 98}}},
			{ID: 0x00150617, Name: "ab@c", Kind: 2, Size: 24, Made: 0x191a1b1c, Of: 0x00050607},
		},
		Cursor: api.Cursor{Kind: 2, Dev: 1, At: 0x1d1e1f20, Txg: 0x21222324},
		Lives:  []int{0x25262728, 0x292a2b2c, 0x2d2e2f30},
	}
	want := slices.Concat(
		[]byte{1, 2, 3, 4, 2},
		[]byte{0, 5, 6, 7, 2, 'a', 'b', 1, 8},
		[]byte{1, 7, 10, 188, 0, 0, 0, 0, 0, 0, 15, 16, 17, 18, 3, 99}, make([]byte, 30), []byte{98},
		[]byte{9, 10, 11, 12, 0, 0, 0, 0, 0, 21, 6, 23, 13, 14},
		[]byte{0, 21, 6, 23, 4, 'a', 'b', '@', 'c', 2, 24}, make([]byte, 47),
		[]byte{25, 26, 27, 28, 0, 5, 6, 7, 0, 0, 0, 0, 0, 0},
		[]byte{2, 1, 29, 30, 31, 32, 33, 34, 35, 36},
		[]byte{3, 37, 38, 39, 40, 41, 42, 43, 44, 45, 46, 47, 48})
	if b, e := record.Bytes(x); e != api.OK || !bytes.Equal(b, want) {
		t.Errorf("%v, %v", b, e)
	}
	answers(t, "these", want, x, api.Fault{})
}

func TestP12_1_WhatMayBe(t *testing.T) {
	for _, x := range []api.Table{none(), one(), full(), least(), most()} {
		checked(t, "whole", x, true)
		x.Lives = slices.Grow(x.Lives, 9)
		checked(t, "with room", x, true)
	}
	d := dice(1)
	for range 2000 {
		checked(t, "any", d.table(), true)
	}
	checked(t, "noughts", api.Table{}, false)
	checked(t, "records that are an empty list", api.Table{Next: 1, Records: []api.Record{}, Lives: []int{0, 0}}, true)
}

// A field is a number somewhere in full's table.
type field struct {
	what string
	set  func(t *api.Table, n int)
	may  func(n int) bool
	at   []int // where it may be, about which is looked
}

func span(low, high int) (func(n int) bool, []int) {
	return func(n int) bool { return low <= n && n <= high }, []int{low, (low + high) / 2, high}
}

func among(l ...int) (func(n int) bool, []int) {
	return func(n int) bool { return slices.Contains(l, n) }, l
}

// recordFields are those of full's record i, but its ID and Kind.
func recordFields(i int) []field {
	var out []field
	put := func(what string, of func(r *api.Record) *int, may func(n int) bool, at []int) {
		out = append(out, field{fmt.Sprint(what, " of record ", i), func(t *api.Table, n int) { *of(&t.Records[i]) = n }, may, at})
	}
	spans := func(what string, of func(r *api.Record) *int, low, high int) {
		may, at := span(low, high)
		put(what, of, may, at)
	}
	one := func(what string, of func(r *api.Record) *int, l ...int) {
		may, at := among(l...)
		put(what, of, may, append(at, 1, 2, 64))
	}
	r := full().Records[i]
	isOf, origin := func(r *api.Record) *int { return &r.Of }, func(r *api.Record) *int { return &r.Origin }
	made, birth := func(r *api.Record) *int { return &r.Made }, func(r *api.Record) *int { return &r.Root.Birth }
	quota, reserve := func(r *api.Record) *int { return &r.Quota }, func(r *api.Record) *int { return &r.Reserve }
	last := 1 << 31
	spans("Size", func(r *api.Record) *int { return &r.Size }, 1, 64)
	if r.Kind == api.KindVolume {
		one("Of", isOf, 0)
		one("Origin", origin, 0, full().Records[snapA].ID, full().Records[lastA].ID, full().Records[snapC].ID)
		spans("Quota", quota, 0, 64)
		spans("Reserve", reserve, 0, 64)
		spans("Made", made, 1, 1<<31)
	} else {
		one("Of", isOf, r.Of)
		one("Origin", origin, 0)
		one("Quota", quota, 0)
		one("Reserve", reserve, 0)
		spans("Made", made, max(1, r.Root.Birth), 1<<31)
		last = r.Made
	}
	if len(r.Root.Addrs) > 0 {
		spans("Birth", birth, 1, last)
		one("Level", func(r *api.Record) *int { return &r.Root.Level }, 3)
		spans("At", func(r *api.Record) *int { return &r.Root.Addrs[0].At }, 5, 4095)
	} else {
		one("Birth of a hole", birth, 0)
		one("Level of a hole", func(r *api.Record) *int { return &r.Root.Level }, 0)
	}
	return out
}

// fields are those of full, but IDs and Kinds.
func fields() []field {
	var out []field
	put := func(what string, low, high int, of func(t *api.Table) *int) {
		may, at := span(low, high)
		out = append(out, field{what, func(t *api.Table, n int) { *of(t) = n }, may, at})
	}
	put("Next", full().Records[lastA].ID+1, 1<<31, func(t *api.Table) *int { return &t.Next })
	put("the cursor's Dev", 0, 2, func(t *api.Table) *int { return &t.Cursor.Dev })
	put("the cursor's At", 0, 1<<31-1, func(t *api.Table) *int { return &t.Cursor.At })
	put("the cursor's Txg", 1, 1<<31, func(t *api.Table) *int { return &t.Cursor.Txg })
	for i := range full().Lives {
		put(fmt.Sprint("Life ", i), 0, 1<<31-1, func(t *api.Table) *int { return &t.Lives[i] })
	}
	for i := range full().Records {
		out = append(out, recordFields(i)...)
	}
	return out
}

// ids are full's, and numbers about them.
func ids() []int {
	var out []int
	for _, r := range full().Records {
		out = append(out, r.ID-1, r.ID, r.ID+1)
	}
	return out
}

func TestP12_1_EachNumberAtItsEdges(t *testing.T) {
	for _, f := range fields() {
		l := slices.Concat(far(), ids(), []int{0, 1, 2, 3, 4, 5, 64, 65, 255, 256, 1<<31 - 1, 1 << 31})
		for _, n := range f.at {
			l = append(l, n-1, n, n+1, n+256, n+1<<32)
		}
		for _, n := range l {
			x := full()
			f.set(&x, n)
			checked(t, fmt.Sprint(f.what, " is ", n), x, f.may(n))
		}
	}
}

func TestP12_1_Next(t *testing.T) {
	for _, n := range append(far(), 0, 1, 2, 3, 1<<31-1, 1<<31) {
		x := none()
		x.Next = n
		checked(t, fmt.Sprint("no record, Next ", n), x, n >= 1 && n <= 1<<31)
		x = one()
		x.Next = n
		checked(t, fmt.Sprint("ID 1, Next ", n), x, n >= 2 && n <= 1<<31)
		x = most()
		x.Next = n
		checked(t, fmt.Sprint("ID 2^31 - 1, Next ", n), x, n == 1<<31)
	}
}

func TestP12_1_ID(t *testing.T) {
	l := append(far(), 0, 1, 2, 76, 77, 78, 1<<31-2, 1<<31-1, 1<<31)
	for _, next := range []int{1, 2, 77, 78, 1<<31 - 1, 1 << 31} {
		for _, id := range l {
			x := one()
			x.Next, x.Records[0].ID = next, id
			checked(t, fmt.Sprint("ID ", id, ", Next ", next), x, id >= 1 && id < next)
		}
	}
	for _, id := range append(l, ids()...) { // volC's has a snapshot, which goes with it
		x := full()
		others := append(slices.Clone(x.Records[:volC]), x.Records[snapC])
		x.Records[volC].ID, x.Records[snapC].Of = id, id
		twin := slices.ContainsFunc(others, func(r api.Record) bool { return r.ID == id })
		checked(t, fmt.Sprint("ID ", id), x, id >= 1 && id < x.Next && !twin)
	}
}

func TestP12_1_TwoWithOneID(t *testing.T) {
	for n := 2; n <= 16; n++ {
		for i := range n {
			for j := range i {
				x := api.Table{Next: 20, Lives: []int{0, 0}}
				for k := range n {
					x.Records = append(x.Records, api.Record{ID: 19 - k, Name: string(rune('a' + k)), Kind: 1, Size: 1, Made: 1})
				}
				checked(t, "unlike ones", x, true)
				x.Records[i].ID = x.Records[j].ID
				checked(t, fmt.Sprint(j, " and ", i, " of ", n), x, false)
			}
		}
	}
}

func TestP12_1_HowManyRecords(t *testing.T) {
	for n := range 40 {
		x := api.Table{Next: 99, Lives: []int{0, 0}}
		for i := range n {
			x.Records = append(x.Records, api.Record{ID: 50 - i, Name: "n" + string(rune('A'+32+i/9)) + string(rune('1'+i%9)), Kind: 1, Size: 1, Made: 1})
		}
		checked(t, fmt.Sprint(n, " records"), x, n <= 16)
	}
	x := most()
	x.Records = slices.Insert(x.Records, 14, api.Record{ID: 1, Name: "y", Kind: 1, Size: 1, Made: 1})
	checked(t, "a 17th one", x, false)
	x = none()
	x.Records = make([]api.Record, 256) // none as one byte
	checked(t, "256 of noughts", x, false)
	x.Records = slices.Repeat(one().Records, 257)
	checked(t, "257 of one", x, false)
}

func TestP12_1_HowManyLives(t *testing.T) {
	for n := range 300 {
		x := none()
		x.Lives = make([]int, n)
		checked(t, fmt.Sprint(n, " Lives"), x, n >= 2 && n <= 8)
		for i := range min(n, 10) {
			for _, life := range append(far(), 0, 1, 1<<31-1, 1<<31) {
				x.Lives = make([]int, n)
				x.Lives[i] = life
				checked(t, fmt.Sprint(n, " Lives, of these ", i, " is ", life), x, n >= 2 && n <= 8 && life >= 0 && life < 1<<31)
			}
		}
	}
}

func TestP12_1_EachKind(t *testing.T) {
	for i, r := range full().Records {
		for _, kind := range append(far(), 0, 1, 2, 3, 4, 255, 256, 257, 258) {
			x := full()
			x.Records[i].Kind = kind
			checked(t, fmt.Sprint("record ", i, " of Kind ", kind), x, kind == r.Kind)
			x = one()
			x.Records[0].Kind = kind
			checked(t, fmt.Sprint("alone, of Kind ", kind), x, kind == 1)
			x.Records[0].Name = "a@b"
			checked(t, fmt.Sprint("a@b alone, of Kind ", kind), x, false)
		}
	}
	third := func(kind int, name string, of, origin int) api.Table {
		x := full()
		x.Records = append(x.Records, api.Record{ID: 9, Name: name, Kind: kind, Size: 1, Made: 1, Of: of, Origin: origin})
		return x
	}
	for _, kind := range []int{0, 3, -1} {
		checked(t, "a third one with a volume's name", third(kind, "d", 0, 0), false)
		checked(t, "a third one with a snapshot's name", third(kind, "cc@y", full().Records[volC].ID, 0), false)
	}
	checked(t, "a clone", third(1, "d", 0, full().Records[snapC].ID), true)
	checked(t, "a snapshot", third(2, "cc@y", full().Records[volC].ID, 0), true)
}

func TestP12_1_Roots(t *testing.T) {
	level := func(n int) api.Pointer { return api.Pointer{Addrs: []api.Addr{at(0, 5)}, Birth: 1, Level: n} }
	birth := func(n int) api.Pointer { return api.Pointer{Addrs: []api.Addr{at(7, 4095)}, Birth: n, Level: 3} }
	list := func(l ...api.Addr) api.Pointer { return api.Pointer{Addrs: l, Birth: 2, Level: 3} }
	for i, r := range full().Records {
		snap := r.Kind == api.KindSnapshot
		for _, y := range []struct {
			what string
			root api.Pointer
			may  bool
		}{
			{"a hole", api.Pointer{}, true},
			{"a hole with a list of none", api.Pointer{Addrs: []api.Addr{}}, true},
			{"a hole of a Birth", api.Pointer{Birth: 1}, false},
			{"a hole of Level 3", api.Pointer{Level: 3}, false},
			{"a hole with a digest", api.Pointer{Sum: api.ID{9: 1}}, false},
			{"Level -1", level(-1), false},
			{"Level 0", level(0), false},
			{"Level 2", level(2), false},
			{"Level 3", level(3), true},
			{"Level 4", level(4), false},
			{"Level 259", level(259), false},
			{"born ahead of Made", birth(r.Made - 1), true},
			{"born at Made", birth(r.Made), true},
			{"born behind Made", birth(r.Made + 1), !snap},
			{"born at 2^31", birth(1 << 31), !snap},
			{"born behind all", birth(1<<31 + 1), false},
			{"not born", birth(0), false},
			{"an address", list(at(0, 5)), true},
			{"three", list(at(0, 5), at(3, 5), at(1, 5)), true},
			{"four", list(at(0, 5), at(3, 5), at(1, 5), at(2, 5)), false},
			{"two on a device", list(at(3, 5), at(0, 5), at(3, 6)), false},
			{"one ahead of the first place", list(at(3, 4)), false},
			{"one behind the last place", list(at(3, 4096)), false},
			{"one on no device", list(at(8, 5)), false},
			{"one of noughts", list(api.Addr{}), false},
		} {
			x := full()
			x.Records[i].Root = y.root
			checked(t, fmt.Sprint(y.what, " as root of record ", i), x, y.may)
		}
	}
}

func TestP12_1_Names(t *testing.T) {
	for _, s := range []string{"", "a", "z", "A", "1", "a1", "a.", "a-", "a_", "-", "aA", "a b", "a@", "@", "@a", "a@b", "a@@b", "a@b@c", "a@B", "A@b", "a\x00", "a\xff", "ä", "a/", long("a"), long("a") + "a", long("a") + "@" + long("b"), long("a") + "a@b", "a@" + long("b") + "b", strings.Repeat("a", 256), strings.Repeat("a", 257), strings.Repeat("a", 1<<20)} {
		x := one()
		x.Records[0].Name = s
		checked(t, s[:min(50, len(s))], x, aVolume.MatchString(s))
		x.Records[0].Kind, x.Records[0].Of = api.KindSnapshot, 7
		checked(t, s[:min(50, len(s))], x, false)
		volume, _, _ := strings.Cut(s, "@")
		x = api.Table{Next: 9, Lives: []int{0, 0}, Records: []api.Record{{ID: 7, Name: volume, Kind: 1, Size: 1, Made: 1}, {ID: 8, Name: s, Kind: 2, Size: 1, Made: 1, Of: 7}}}
		checked(t, "a volume and "+s[:min(50, len(s))], x, aSnapshot.MatchString(s))
	}
}

func TestP12_1_NamesInEachOrder(t *testing.T) {
	ahead := []string{"a", "a@b", "a@b-", "a@c", "a-", "a-@a", "a1", "aa", "aa@b", "b", "b@a"}
	of := func(l ...string) api.Table {
		x := api.Table{Next: 99, Lives: []int{0, 0}}
		for i, s := range l {
			r := api.Record{ID: i + 1, Name: s, Kind: api.KindVolume, Size: 1, Made: 1}
			if volume, _, is := strings.Cut(s, "@"); is {
				r.Kind, r.Of = api.KindSnapshot, slices.Index(l, volume)+1
			}
			x.Records = append(x.Records, r)
		}
		return x
	}
	checked(t, "in order", of(ahead...), true)
	for i := range ahead {
		for j := range ahead {
			l := slices.Clone(ahead)
			l[i], l[j] = l[j], l[i]
			checked(t, fmt.Sprint(i, " for ", j), of(l...), i == j)
			l = slices.Insert(slices.Clone(ahead), i, ahead[j])
			checked(t, fmt.Sprint(j, " once more at ", i), of(l...), false)
			v, w := ahead[i], ahead[j]
			if !strings.Contains(v+w, "@") {
				checked(t, v+" "+w, of(v, w), i < j)
			}
		}
	}
	slices.Reverse(ahead)
	checked(t, "turned about", of(ahead...), false)
}

func TestP12_1_SnapshotsAndTheirVolumes(t *testing.T) {
	for i, r := range full().Records {
		x := full()
		x.Records = slices.Delete(x.Records, i, i+1)
		needed := i == volA || i == snapA || i == volC // a volume by its snapshots, a snapshot by its clone
		checked(t, "without "+r.Name, x, !needed)
	}
	for i, r := range full().Records {
		for j, o := range full().Records {
			x := full()
			x.Records[i].Of = o.ID
			checked(t, r.Name+" of "+o.Name, x, r.Of == o.ID)
			x = full()
			x.Records[i].Origin = o.ID
			checked(t, r.Name+" begun with "+o.Name, x, r.Kind == api.KindVolume && o.Kind == api.KindSnapshot)
			x = full()
			x.Records[i].ID, x.Records[j].ID = o.ID, r.ID
			pair := []int{i, j}
			left := slices.Contains(pair, volA) || slices.Contains(pair, volC) // by their snapshots
			lost := slices.Contains(pair, snapA) && slices.Contains(pair, cloneB)
			checked(t, r.Name+" with the ID of "+o.Name, x, i == j || !left && !lost)
		}
	}
	x := one()
	x.Records = append(x.Records, api.Record{ID: 1, Name: "b@c", Kind: 2, Size: 1, Made: 1, Of: 1})
	x.Next = 3
	x.Records[1].ID = 2
	checked(t, "another volume's", x, false)
	x.Records[1].Name = "aa@c"
	checked(t, "one of a volume whose name is longer", x, false)
	x.Records[1].Name = "a@c"
	checked(t, "a's own", x, true)
	x.Records[0].Origin = 2
	checked(t, "a, begun with its own snapshot", x, true)
	for _, origin := range append(far(), 1, 3, 4, 1<<31-1, 1<<31) {
		x.Records[0].Origin = origin
		checked(t, fmt.Sprint("a, begun with ", origin), x, false)
	}
}

func TestP12_1_Cursors(t *testing.T) {
	edges := append(far(), 0, 1, 2, 3, 7, 8, 9, 255, 256, 257, 1<<31-1, 1<<31)
	for devs := 2; devs <= 8; devs++ {
		with := func(what string, c api.Cursor, may bool) {
			x := full()
			x.Lives, x.Cursor = make([]int, devs), c
			checked(t, fmt.Sprintf("%s: %+v of %d", what, c, devs), x, may)
		}
		for _, kind := range append(edges, -3, 4, 5) {
			is := kind == 1 || kind == 2
			with("Kind", api.Cursor{Kind: kind}, kind == 0)
			with("Kind", api.Cursor{Kind: kind, Txg: 1}, is)
			with("Kind", api.Cursor{Kind: kind, Dev: 1, At: 5, Txg: 9}, kind == 2)
			for _, n := range edges {
				with("Dev", api.Cursor{Kind: kind, Dev: n, At: 5, Txg: 9}, n == 0 && is || kind == 2 && n >= 0 && n < devs)
				with("At", api.Cursor{Kind: kind, At: n, Txg: 9}, is && n >= 0 && n < 1<<31)
				with("Txg", api.Cursor{Kind: kind, At: 5, Txg: n}, is && n >= 1 && n <= 1<<31)
				if n != 0 {
					with("nothing else", api.Cursor{Dev: n}, false)
					with("nothing else", api.Cursor{At: n}, false)
					with("nothing else", api.Cursor{Txg: n}, false)
				}
			}
		}
	}
}

func TestP12_1_BytesAreNewMemory(t *testing.T) {
	x := full()
	first, _ := record.Bytes(x)
	clear(first[:cap(first)])
	second, e := record.Bytes(x)
	if e != api.OK || !bytes.Equal(second, encoded(full())) {
		t.Error("a second one hangs on the first one")
	}
	third, _ := record.Bytes(x)
	_ = append(second, 1, 2, 3)
	clear(second[:cap(second)])
	if !bytes.Equal(third, encoded(full())) || !same(x, full()) {
		t.Error("a third one shares memory with the second one, or with what was handed in")
	}
	clear(x.Records[0].Root.Addrs)
	clear(x.Records)
	clear(x.Lives)
	if !bytes.Equal(third, encoded(full())) {
		t.Error("the third one hangs on what was handed in")
	}
}

// roomy is x with records, lives and addresses in the room behind its own, which must not count.
func roomy(x api.Table) api.Table {
	more := full()
	x = copied(x)
	x.Records = append(x.Records, more.Records...)[:len(x.Records)]
	x.Lives = append(x.Lives, -1, 9, 8)[:len(x.Lives)]
	for i := range x.Records {
		l := x.Records[i].Root.Addrs
		x.Records[i].Root.Addrs = append(slices.Clone(l), at(-1, 4), at(9, 9))[:len(l)]
	}
	return x
}

// wide is x with all of its room.
func wide(x api.Table) api.Table {
	x.Records = slices.Clone(x.Records)
	for i := range x.Records {
		l := x.Records[i].Root.Addrs
		x.Records[i].Root.Addrs = l[:cap(l)]
	}
	x.Records, x.Lives = x.Records[:cap(x.Records)], x.Lives[:cap(x.Lives)]
	return x
}

func TestP12_1_LeavesWhatIsHandedIn(t *testing.T) {
	all := []api.Table{none(), one(), full(), least(), most(), {}, changed(func(t *api.Table) { slices.Reverse(t.Records) })}
	for _, f := range fields() {
		all = append(all, changed(func(t *api.Table) { f.set(t, f.at[0]-1) }))
	}
	for _, base := range all {
		x, y := roomy(base), roomy(base)
		was, too := copied(wide(x)), copied(wide(y))
		record.Check(x)
		record.Bytes(x)
		record.Same(x, y)
		record.Find(x, "cc")
		if !same(wide(x), was) || !same(wide(y), too) || !same(x, base) || !same(y, base) {
			t.Fatalf("%s: it, or the room behind its lists, is another one", text(base))
		}
		checked(t, "with room", x, able(base))
		found(t, x, "cc")
		if !record.Same(x, copied(base)) || !record.Same(copied(base), x) {
			t.Fatalf("%s: Same looks at room", text(base))
		}
	}
}

func TestP12_1_TheSameAnswersAgain(t *testing.T) {
	wrong := changed(func(t *api.Table) { t.Records[lastA].Of++ })
	for range 3 {
		checked(t, "full", full(), true)
		checked(t, "a wrong one", wrong, false)
		checked(t, "none", none(), true)
		held(t, full(), wrong, false)
		found(t, wrong, "b")
	}
}
