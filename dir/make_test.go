package dir_test

import (
	"reflect"
	"slices"
	"testing"

	"caulker/api"
	"caulker/dir"
	"caulker/record"
)

func TestP13_1_New(t *testing.T) {
	for n := 2; n <= 8; n++ {
		x, e := dir.New(n)
		if want := (api.Table{Next: 1, Lives: make([]int, n)}); e != api.OK || !same(x, want) || record.Check(x) != api.OK {
			t.Errorf("%d: %s, %v", n, text(x), e)
		}
	}
	for _, n := range append(far(), 0, 1, 9, 10, 16, 258, 1<<31) {
		if x, e := dir.New(n); e != api.ErrArg || !reflect.DeepEqual(x, api.Table{}) {
			t.Errorf("%d: %s, %v", n, text(x), e)
		}
	}
}

func TestP13_1_NewSharesNoMemory(t *testing.T) {
	x, _ := dir.New(8)
	y, _ := dir.New(8)
	if shared(lists(x), lists(y)) {
		t.Fatal("memory is shared")
	}
	for i := range x.Lives[:cap(x.Lives)] {
		x.Lives[:cap(x.Lives)][i] = 7
	}
	for n := 2; n <= 8; n++ {
		if y, _ := dir.New(n); !same(y, api.Table{Next: 1, Lives: make([]int, n)}) {
			t.Errorf("%d: %s", n, text(y))
		}
	}
}

func TestP13_2_Examples(t *testing.T) {
	x, e := dir.New(2)
	y, f := dir.Make(x, "a", 4, 1)
	z, g := dir.Snap(y, "a@x", 2)
	c, h := dir.Clone(z, "a@x", "b", 3)
	if e != api.OK || f != api.OK || g != api.OK || h != api.OK || !same(c, three()) {
		t.Fatalf("%s, %v, %v, %v, %v", text(c), e, f, g, h)
	}
	aMake("a@b", 1, 1).answers(t, three(), api.ErrArg)
	aSnap("z@x", 1).answers(t, three(), api.ErrMissing)
	aMake("b", 4, 4).answers(t, three(), api.ErrExists)
}

func TestP13_2_WhatIsMade(t *testing.T) {
	x := aMake("c", 7, 99).answers(t, full(), api.OK)
	i, _ := record.Find(x, "c")
	if r := x.Records[i]; i != 9 || x.Next != 41 || !reflect.DeepEqual(r, api.Record{ID: 40, Name: "c", Kind: api.KindVolume, Size: 7, Made: 99}) {
		t.Errorf("%d: %s", i, text(x))
	}
	x.Records, x.Next = slices.Delete(x.Records, i, i+1), 40
	if !same(x, full()) {
		t.Errorf("else: %s", text(x))
	}
}

func TestP13_2_WhatIsSnapped(t *testing.T) {
	x := aSnap("a@mm", 91).answers(t, full(), api.OK)
	i, _ := record.Find(x, "a@mm")
	if r := x.Records[i]; i != 2 || x.Next != 41 || !reflect.DeepEqual(r, api.Record{ID: 40, Name: "a@mm", Kind: api.KindSnapshot, Size: 9, Root: root(90), Made: 91, Of: 5}) {
		t.Errorf("%d: %s", i, text(x))
	}
	x.Records, x.Next = slices.Delete(x.Records, i, i+1), 40
	if !same(x, full()) {
		t.Errorf("else: %s", text(x))
	}
}

func TestP13_2_Size(t *testing.T) {
	for _, size := range append(far(), 0, 1, 2, 63, 64, 65, 257, 1<<31) {
		want := api.ErrArg
		if size >= 1 && size <= 64 {
			want = api.OK
		}
		for _, x := range []api.Table{none(), three(), full()} {
			aMake("c", size, 5).answers(t, x, want)
		}
	}
}

func TestP13_2_Txg(t *testing.T) {
	hole := changed(func(t *api.Table) { named(*t, "a").Root = api.Pointer{} })
	for _, txg := range append(far(), 0, 1, 2, 1<<31-1, 1<<31) {
		want := api.ErrArg
		if txg >= 1 && txg <= 1<<31 {
			want = api.OK
		}
		aMake("c", 5, txg).answers(t, none(), want)
		aMake("c", 5, txg).answers(t, full(), want)
		aSnap("a@y", txg).answers(t, three(), want)
		aSnap("a@y", txg).answers(t, hole, want)
	}
}

func TestP13_2_NamesOfEachKind(t *testing.T) {
	for _, s := range odd() {
		for _, x := range several() {
			aMake(s, 1, 1).answers(t, x, api.ErrArg)
			aSnap(s, 1<<31).answers(t, x, api.ErrArg)
		}
	}
	for _, s := range []string{"c", "a1", "a.", "az", long("a"), "zzz"} {
		aMake(s, 1, 1).answers(t, full(), api.OK)
		aSnap(s, 1<<31).answers(t, full(), api.ErrArg)
	}
	for _, s := range []string{"a@c", "b@xx", "d@d", "a-@x", "d@" + long("x")} {
		aMake(s, 1, 1).answers(t, full(), api.ErrArg)
		aSnap(s, 1<<31).answers(t, full(), api.OK)
	}
	for _, s := range []string{"c@x", "ab@x", "zz@x", "a1@m", long("a") + "@x"} {
		aSnap(s, 1<<31).answers(t, full(), api.ErrMissing)
		aSnap(s, 1<<31).answers(t, none(), api.ErrMissing)
	}
	aSnap(long("v")+"@"+long("s"), 3).answers(t, aMake(long("v"), 1, 1).answers(t, full(), api.OK), api.OK)
}

func TestP13_2_WhatIsThere(t *testing.T) {
	for _, x := range several() {
		for _, r := range x.Records {
			c := aMake(r.Name, 1, 1)
			if r.Kind == api.KindSnapshot {
				c = aSnap(r.Name, 1<<31)
			}
			c.answers(t, x, api.ErrExists)
		}
	}
}

func TestP13_2_Places(t *testing.T) {
	x := none()
	for i, c := range []struct{ name, want string }{
		{"m", "m"},
		{"m@m", "m m@m"},
		{"a", "a m m@m"},
		{"z", "a m m@m z"},
		{"m-", "a m m@m m- z"},
		{"m@a", "a m m@a m@m m- z"},
		{"m@z", "a m m@a m@m m@z m- z"},
		{"mm", "a m m@a m@m m@z m- mm z"},
		{"m@mm", "a m m@a m@m m@mm m@z m- mm z"},
		{"m-@m", "a m m@a m@m m@mm m@z m- m-@m mm z"},
		{"a@z", "a a@z m m@a m@m m@mm m@z m- m-@m mm z"},
		{"z@a", "a a@z m m@a m@m m@mm m@z m- m-@m mm z z@a"},
		{"l", "a a@z l m m@a m@m m@mm m@z m- m-@m mm z z@a"},
	} {
		made := aMake(c.name, 1+i, 1+i)
		if aSnapshot.MatchString(c.name) {
			made = aSnap(c.name, 1+i)
		}
		x = made.answers(t, x, api.OK)
		if called(x) != c.want || named(x, c.name).ID != 1+i || x.Next != 2+i {
			t.Fatalf("%s: %s", c.name, text(x))
		}
	}
}

func TestP13_2_Full(t *testing.T) {
	for n := range 17 {
		want := api.OK
		if n == 16 {
			want = api.ErrFull
		}
		aMake("a", 1, 1).answers(t, many(n), want)
		aMake("z", 1, 1).answers(t, next(many(n), 1<<31-1), want)
		aMake("z", 1, 1).answers(t, next(many(n), 1<<31), api.ErrFull)
		if n > 0 {
			aSnap("b@a", 1).answers(t, many(n), want)
			aSnap("b@zz", 1).answers(t, next(many(n), 1<<31-1), want)
			aSnap("b@zz", 1).answers(t, next(many(n), 1<<31), api.ErrFull)
		}
	}
	x := aMake("c", 1, 1).answers(t, next(three(), 1<<31-1), api.OK)
	if x.Next != 1<<31 || named(x, "c").ID != 1<<31-1 {
		t.Error(text(x))
	}
	aSnap("a@y", 1).answers(t, x, api.ErrFull)
}

func TestP13_2_SnapOfARootBornBehindIt(t *testing.T) {
	for _, birth := range []int{1, 2, 90, 1<<31 - 1, 1 << 31} {
		for _, txg := range []int{1, 2, 89, 90, 91, 1<<31 - 1, 1 << 31} {
			want := api.OK
			if birth > txg {
				want = api.ErrArg
			}
			x := changed(func(t *api.Table) { named(*t, "a").Root = root(birth) })
			aSnap("a@x", txg).answers(t, x, want)
			aSnap("d@x", 7).answers(t, x, api.OK)
			x = aMake("c", 1, 1).answers(t, x, api.OK)
			aSnap("c@x", txg).answers(t, x, api.OK) // of a hole
		}
	}
	// A snapshot's own Made does not matter, nor that of its volume.
	aSnap("d@x", 7).answers(t, full(), api.OK)
	aSnap("d@x", 6).answers(t, full(), api.ErrArg)
	aSnap("f@x", 12).answers(t, full(), api.OK)
}

func TestP13_2_WhichErrorComesFirst(t *testing.T) {
	bad, lone := next(three(), 2), next(many(16), 1<<31)
	aMake("a", 1, 1).answers(t, bad, api.ErrArg)
	aMake("c", 1, 1).answers(t, next(bad, 1<<31+1), api.ErrArg)
	aSnap("z@x", 1).answers(t, bad, api.ErrArg)
	aSnap("a@x", 1).answers(t, bad, api.ErrArg)
	for _, x := range []api.Table{many(16), lone, next(many(2), 1<<31)} {
		aMake("b", 0, 1).answers(t, x, api.ErrArg)
		aMake("b", 1, 0).answers(t, x, api.ErrArg)
		aMake("z", 1, 0).answers(t, x, api.ErrArg)
		aMake("b", 1, 1).answers(t, x, api.ErrExists)
		aMake("z", 1, 1).answers(t, x, api.ErrFull)
		aSnap("z@x", 0).answers(t, x, api.ErrArg)
		aSnap("b@c", 0).answers(t, x, api.ErrArg)
		aSnap("z@x", 1).answers(t, x, api.ErrMissing)
		aSnap("b@c", 1).answers(t, x, api.ErrExists)
		aSnap("b@z", 1).answers(t, x, api.ErrFull)
	}
	late := func(x api.Table) api.Table {
		named(x, "b").Root = root(77)
		return x
	}
	aSnap("b@c", 1).answers(t, late(many(5)), api.ErrExists)
	aSnap("b@z", 1).answers(t, late(many(5)), api.ErrArg)
	aSnap("b@z", 1).answers(t, late(many(16)), api.ErrFull)
	aSnap("b@z", 1).answers(t, late(next(many(5), 1<<31)), api.ErrFull)
	aSnap("b@z", 77).answers(t, late(many(5)), api.OK)
}
