package dir_test

import (
	"cmp"
	"math"
	"reflect"
	"slices"
	"testing"

	"caulker/api"
	"caulker/dir"
	"caulker/pointer"
	"caulker/record"
)

// call is one of any kind: mostly such as may be, with few names, so that many meet.
func (d *dice) call() call {
	volumes := []string{"a", "b", "a-", "ab", "c", "d", "e"}
	volume := func() string { return volumes[d.below(len(volumes))] }
	snap := func() string { return volume() + "@" + string(rune('x'+d.below(3))) }
	either := func() string {
		switch d.below(30) {
		case 0:
			return odd()[d.below(len(odd()))]
		case 1, 2, 3, 4, 5, 6, 7, 8, 9, 10:
			return snap()
		}
		return volume()
	}
	number := func(most int) int {
		if d.below(20) == 0 {
			return append(far(), 0, 1, 64, 65, 1<<31)[d.below(len(far())+5)]
		}
		return 1 + d.below(most)
	}
	txg := number(9)
	switch d.below(14) {
	case 0, 1:
		return aMake(volume(), number(64), txg)
	case 2, 3:
		return aSnap(snap(), txg)
	case 4:
		return aClone(snap(), volume(), txg)
	case 5:
		return aRollback(snap())
	case 6:
		return aDrop(either())
	case 7:
		return aRename(volume(), volume())
	case 8:
		v := volume()
		return aRename(v+"@x", v+"@"+string(rune('x'+d.below(3))))
	case 9:
		return aResize(either(), number(64))
	case 10:
		return aLimit(either(), number(65)-1, number(65)-1)
	case 11, 12:
		return aRoot(either(), d.root())
	}
	return each(either(), either(), number(64), txg, d.root())[d.below(9)]
}

func (d *dice) root() api.Pointer {
	p := root(1+d.below(9), at(d.below(3), 5+d.below(5)), at(3+d.below(5), 5+d.below(5)))
	switch d.below(12) {
	case 0:
		return api.Pointer{}
	case 1:
		p.Level = d.below(5)
	case 2:
		p.Addrs = p.Addrs[:d.below(2)]
	}
	return p
}

// walk does calls one behind the other, each of what the one ahead told.
func walk(t *testing.T, seed, steps int, see func(c call, was, is api.Table, e api.Errno)) {
	t.Helper()
	d := dice(seed)
	x, e := dir.New(2 + d.below(7))
	if e != api.OK {
		t.Fatal(e)
	}
	for range steps {
		c := d.call()
		y, e := c.holds(t, x)
		see(c, x, y, e)
		if e == api.OK {
			x = y
		}
	}
}

func TestP13_6_CallsOneBehindTheOther(t *testing.T) {
	type told struct {
		of string
		e  api.Errno
	}
	seen := map[told]int{}
	for seed := range 60 {
		walk(t, seed, 400, func(c call, was, is api.Table, e api.Errno) { seen[told{c.of, e}]++ })
	}
	want := map[string][]api.Errno{
		"Make": {api.ErrExists, api.ErrFull}, "Snap": {api.ErrMissing, api.ErrExists, api.ErrFull}, "Clone": {api.ErrMissing, api.ErrExists, api.ErrFull},
		"Rollback": {api.ErrMissing, api.ErrBusy}, "Drop": {api.ErrMissing, api.ErrBusy}, "Rename": {api.ErrMissing, api.ErrExists},
		"Resize": {api.ErrMissing, api.ErrReadOnly}, "Limit": {api.ErrMissing, api.ErrReadOnly}, "Root": {api.ErrMissing, api.ErrReadOnly},
	}
	for of, l := range want {
		for e := range api.ErrReadOnly + 1 {
			may := e == api.OK || e == api.ErrArg || slices.Contains(l, e)
			if (seen[told{of, e}] > 0) != may {
				t.Errorf("%s told %v %d times", of, e, seen[told{of, e}])
			}
		}
	}
}

func TestP13_6_WhatIsToldMayBe(t *testing.T) {
	for seed := range 60 {
		walk(t, 100+seed, 300, func(c call, was, is api.Table, e api.Errno) {
			if e == api.OK && record.Check(is) != api.OK {
				t.Fatalf("%s of %s: %s", text(c), text(was), text(is))
			}
		})
	}
}

func TestP13_6_IDsRise(t *testing.T) {
	for seed := range 60 {
		given := map[int]bool{}
		most := 0
		walk(t, 200+seed, 300, func(c call, was, is api.Table, e api.Errno) {
			if e != api.OK {
				return
			}
			for _, r := range is.Records {
				if slices.ContainsFunc(was.Records, func(o api.Record) bool { return o.ID == r.ID }) {
					continue
				}
				if given[r.ID] || r.ID <= most {
					t.Fatalf("%s of %s: the ID %d", text(c), text(was), r.ID)
				}
				given[r.ID], most = true, r.ID
			}
			if is.Next < was.Next || is.Next <= most {
				t.Fatalf("%s of %s: Next %d", text(c), text(was), is.Next)
			}
		})
	}
}

// byID are a table's records by rising IDs.
func byID(t api.Table) []api.Record {
	return slices.SortedFunc(slices.Values(copied(t).Records), func(a, b api.Record) int { return cmp.Compare(a.ID, b.ID) })
}

func TestP13_6_ButWhatIsSaidAllIsAsItWas(t *testing.T) {
	for seed := range 60 {
		walk(t, 300+seed, 300, func(c call, was, is api.Table, e api.Errno) {
			if e != api.OK {
				return
			}
			a, b := byID(was), byID(is)
			grown := c.of == "Make" || c.of == "Snap" || c.of == "Clone"
			if grown { // it is the one of the greatest ID
				b = b[:len(b)-1]
			}
			if c.of == "Drop" {
				a = slices.DeleteFunc(a, func(r api.Record) bool { return r.Name == c.name })
			}
			if len(a) != len(b) || is.Cursor != was.Cursor || !slices.Equal(is.Lives, was.Lives) || !grown && is.Next != was.Next || grown && is.Next != was.Next+1 {
				t.Fatalf("%s of %s: %s", text(c), text(was), text(is))
			}
			changes := 0
			for i := range a {
				if !reflect.DeepEqual(a[i], b[i]) {
					changes++
				}
				switch c.of { // what may have changed
				case "Rename":
					a[i].Name = b[i].Name
				case "Rollback":
					a[i].Size, a[i].Root = b[i].Size, b[i].Root
				case "Resize":
					a[i].Size = b[i].Size
				case "Limit":
					a[i].Quota, a[i].Reserve = b[i].Quota, b[i].Reserve
				case "Root":
					a[i].Root = b[i].Root
				}
				if !reflect.DeepEqual(a[i], b[i]) {
					t.Fatalf("%s of %s: %s", text(c), text(was), text(is))
				}
			}
			if changes > 1 && c.of != "Rename" {
				t.Fatalf("%s of %s: %s", text(c), text(was), text(is))
			}
		})
	}
}

func TestP13_6_WhichRootsThereAre(t *testing.T) {
	within := func(l []api.Record, p api.Pointer) bool {
		return pointer.Hole(p) || slices.ContainsFunc(l, func(r api.Record) bool { return pointer.Same(r.Root, p) })
	}
	all := func(a, b api.Table) bool {
		return !slices.ContainsFunc(a.Records, func(r api.Record) bool { return !within(b.Records, r.Root) })
	}
	gone := map[string]int{}
	for seed := range 60 {
		walk(t, 400+seed, 300, func(c call, was, is api.Table, e api.Errno) {
			if e != api.OK {
				return
			}
			if c.of != "Root" && !all(is, was) {
				t.Fatalf("%s of %s: a new root: %s", text(c), text(was), text(is))
			}
			if !all(was, is) {
				gone[c.of]++
			}
		})
	}
	if len(gone) != 3 || gone["Root"] == 0 || gone["Rollback"] == 0 || gone["Drop"] == 0 {
		t.Error("roots were gone behind:", gone)
	}
}

// names are a table's, and others of each kind.
func names(t api.Table) []string {
	out := append(odd()[:8], "c", "a@c", "c@x", "b@x", "a1", "z", long("z"))
	for _, r := range t.Records {
		out = append(out, r.Name)
	}
	slices.Sort(out)
	return slices.Compact(out)
}

func TestP13_6_EachNameForEachOther(t *testing.T) {
	for _, x := range several() {
		for _, name := range names(x) {
			for i, to := range names(x) {
				for _, c := range each(name, to, 1+i, 40+i, root(1+i)) {
					c.holds(t, x)
				}
			}
		}
	}
}

func TestP13_6_EachNumberForEachOther(t *testing.T) {
	numbers := []int{math.MinInt, -1, 0, 1, 12, 64, 65, 256, 1<<31 - 1, 1 << 31, 1<<31 + 1, 1<<32 + 1, math.MaxInt}
	for _, x := range []api.Table{none(), three(), full(), many(16)} {
		for _, name := range []string{"a", "c", "a@c", "b@x", "z@z", "A", "f@c"} {
			for _, n := range numbers {
				for _, m := range numbers {
					p := root(1)
					p.Birth, p.Level = m, n
					for _, c := range each(name, "y", n, m, p) {
						c.holds(t, x)
					}
				}
			}
		}
	}
}

func TestP13_6_TablesThatMayNotBe(t *testing.T) {
	for what, x := range wrong() {
		if record.Check(x) != api.ErrArg {
			t.Fatal(what, "may be")
		}
		for _, name := range []string{"a", "aa", "c", "d", "a@m", "a@z", "c@x", "f@a", "", "A", "a@m@m"} {
			for _, to := range []string{"a", "g", "a@o", "a@m", "", "zz"} {
				for _, c := range each(name, to, 1, 91, root(1)) {
					c.answers(t, x, api.ErrArg)
				}
			}
		}
	}
}

func TestP13_6_AnyTable(t *testing.T) {
	d := dice(5)
	number := func() int { return append(far(), 0, 1, 2, 5, 9, 64, 65, 1<<31)[d.below(len(far())+8)] }
	may := 0
	for range 4000 {
		x := full()
		for range d.below(4) {
			switch r := &x.Records[d.below(len(x.Records))]; d.below(13) {
			case 0:
				x.Next = number()
			case 1:
				x.Records = slices.Repeat(x.Records[d.below(len(x.Records)):], 1+d.below(3))
			case 2:
				x.Lives = make([]int, d.below(12))
			case 3:
				x.Cursor.Dev, x.Cursor.Kind = d.below(4), d.below(4)
			case 4:
				*r = x.Records[d.below(len(x.Records))]
			case 5:
				r.ID = number()
			case 6:
				r.Name = names(full())[d.below(len(names(full())))]
			case 7:
				r.Kind = number()
			case 8:
				r.Size = number()
			case 9:
				r.Made, r.Root.Birth = number(), number()
			case 10:
				r.Of, r.Origin = number(), number()
			case 11:
				r.Quota, r.Reserve = number(), number()
			case 12:
				r.Root = api.Pointer{Addrs: make([]api.Addr, d.below(5)), Level: number()}
			}
		}
		if record.Check(x) == api.OK {
			may++
		}
		for range 5 {
			d.call().holds(t, x)
		}
	}
	if may < 500 || may > 3500 {
		t.Error("too few of a kind:", may)
	}
}

func TestP13_6_TheSameAnswersAgain(t *testing.T) {
	for _, x := range several() {
		for _, name := range names(x) {
			for _, c := range each(name, "y", 7, 99, root(1)) {
				a, e := c.holds(t, x)
				clear(a.Records[:cap(a.Records)])
				clear(a.Lives[:cap(a.Lives)])
				if _, f := c.holds(t, x); f != e {
					t.Fatal(text(c), e, f)
				}
			}
		}
	}
}

func TestP13_6_WhatIsToldGrowsAlone(t *testing.T) {
	x := three()
	a, _ := dir.Make(x, "c", 1, 1)
	b, _ := dir.Make(a, "d", 1, 1)
	c, _ := dir.Make(a, "e", 2, 2)
	if called(x) != "a a@x b" || called(a) != "a a@x b c" || called(b) != "a a@x b c d" || called(c) != "a a@x b c e" || b.Records[4].ID != 5 || c.Records[4].ID != 5 {
		t.Error(called(x), called(a), called(b), called(c))
	}
	_ = append(b.Records, api.Record{})
	_ = append(b.Lives, 7)
	if called(a) != "a a@x b c" || len(a.Lives) != 2 {
		t.Error(text(a))
	}
}
