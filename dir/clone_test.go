package dir_test

import (
	"reflect"
	"slices"
	"testing"

	"caulker/api"
	"caulker/record"
)

func TestP13_3_Examples(t *testing.T) {
	x := aSnap("a@y", 4).answers(t, three(), api.OK)
	aRollback("a@x").answers(t, x, api.ErrBusy)
	aRollback("a@y").answers(t, x, api.OK)
}

func TestP13_3_WhatIsCloned(t *testing.T) {
	x := aClone("a@m", "ab", 3).answers(t, full(), api.OK) // made ahead of its root, which is no fault of a volume
	i, _ := record.Find(x, "ab")
	if r := x.Records[i]; i != 5 || x.Next != 41 || !reflect.DeepEqual(r, api.Record{ID: 40, Name: "ab", Kind: api.KindVolume, Size: 8, Root: root(60, at(2, 259), at(4, 773), at(6, 4095)), Made: 3, Origin: 9}) {
		t.Errorf("%d: %s", i, text(x))
	}
	x.Records, x.Next = slices.Delete(x.Records, i, i+1), 40
	if !same(x, full()) {
		t.Errorf("else: %s", text(x))
	}
}

func TestP13_3_CloneTxg(t *testing.T) {
	for _, txg := range append(far(), 0, 1, 2, 1<<31-1, 1<<31) {
		want := api.ErrArg
		if txg >= 1 && txg <= 1<<31 {
			want = api.OK
		}
		for _, snap := range []string{"a@m", "b@x", "f@a"} {
			aClone(snap, "c", txg).answers(t, full(), want)
		}
	}
}

func TestP13_3_CloneNamesOfEachKind(t *testing.T) {
	for _, s := range append(odd(), "a", "c", long("a")) {
		aClone(s, "c", 1).answers(t, full(), api.ErrArg)
		aClone(s, "a", 1).answers(t, full(), api.ErrArg)
	}
	for _, s := range append(odd(), "a@m", "a@z", "c@x", "a@"+long("x")) {
		aClone("a@m", s, 1).answers(t, full(), api.ErrArg)
		aClone("z@z", s, 1).answers(t, full(), api.ErrArg)
	}
	for _, s := range []string{"c", "aaa", "f1", long("z")} {
		aClone("a@m", s, 1).answers(t, full(), api.OK)
		aClone("a@o", s, 1).answers(t, full(), api.ErrMissing)
		aClone("a@o", s, 1).answers(t, none(), api.ErrMissing)
		aClone("aa@m", s, 1).answers(t, full(), api.ErrMissing)
		aClone("z@m", s, 1).answers(t, full(), api.ErrMissing)
		aClone("z@m", "a", 1).answers(t, full(), api.ErrMissing)
	}
	for _, s := range []string{"a", "aa", "b", "f"} {
		aClone("a@m", s, 1).answers(t, full(), api.ErrExists)
	}
}

func TestP13_3_CloneFull(t *testing.T) {
	for n := 2; n <= 16; n++ {
		want := api.OK
		if n == 16 {
			want = api.ErrFull
		}
		aClone("b@c", "z", 1).answers(t, many(n), want)
		aClone("b@c", "z", 1).answers(t, next(many(n), 1<<31-1), want)
		aClone("b@c", "z", 1).answers(t, next(many(n), 1<<31), api.ErrFull)
	}
	for _, x := range []api.Table{many(16), next(many(16), 1<<31), next(many(3), 1<<31)} {
		aClone("b@c", "z", 0).answers(t, x, api.ErrArg)
		aClone("b@c", "b", 0).answers(t, x, api.ErrArg)
		aClone("b@z", "b", 1).answers(t, x, api.ErrMissing)
		aClone("b@c", "b", 1).answers(t, x, api.ErrExists)
	}
}

func TestP13_3_CloneOfAClone(t *testing.T) {
	x := aSnap("b@q", 9).answers(t, three(), api.OK)
	x = aClone("b@q", "c", 9).answers(t, x, api.OK)
	x = aClone("a@x", "d", 9).answers(t, x, api.OK)
	if called(x) != "a a@x b b@q c d" || named(x, "c").Origin != 4 || named(x, "d").Origin != 2 || named(x, "b").Origin != 2 || named(x, "b@q").Of != 3 {
		t.Error(text(x))
	}
}

// The newest of full's: a@m by its ID, b@y and f@a by their Made.
func TestP13_3_RollbackToTheNewest(t *testing.T) {
	for snap, want := range map[string]api.Errno{
		"a@m": api.OK, "a@n": api.ErrBusy, "b@x": api.ErrBusy, "b@y": api.OK, "b@z": api.ErrBusy, "f@a": api.OK, "f@b": api.ErrBusy,
	} {
		aRollback(snap).answers(t, full(), want)
	}
	for made := 1; made <= 3; made++ {
		for id := range 3 { // among others two of one Made, with IDs in each order
			x := three()
			x.Next = 99
			x.Records[1].ID, x.Records[1].Made = 10+id, 2
			x.Records[2].Origin = 10 + id
			x.Records = slices.Insert(x.Records, 2, api.Record{ID: 11, Name: "a@y", Kind: 2, Size: 1, Made: made, Of: 1})
			if id == 1 {
				x.Records[2].ID = 9
			}
			first, second := x.Records[1], x.Records[2]
			lead := first.Made > second.Made || first.Made == second.Made && first.ID > second.ID
			is := map[bool]api.Errno{true: api.OK, false: api.ErrBusy}
			aRollback("a@x").answers(t, x, is[lead])
			aRollback("a@y").answers(t, x, is[!lead])
		}
	}
}

func TestP13_3_WhatIsPutBack(t *testing.T) {
	for snap, volume := range map[string]string{"a@m": "a", "b@y": "b", "f@a": "f"} {
		x := aRollback(snap).answers(t, full(), api.OK)
		want := full()
		v, s := named(want, volume), named(want, snap)
		v.Size, v.Root = s.Size, s.Root
		if !same(x, want) {
			t.Errorf("%s: %s", snap, text(x))
		}
		if again := aRollback(snap).answers(t, x, api.OK); !same(again, x) {
			t.Errorf("%s again: %s", snap, text(again))
		}
	}
}

func TestP13_3_RollbackNames(t *testing.T) {
	for _, s := range append(odd(), "a", "aa", "c", long("a")) {
		for _, x := range several() {
			aRollback(s).answers(t, x, api.ErrArg)
		}
	}
	for _, s := range []string{"a@o", "a@l", "aa@m", "c@x", "z@z", long("a") + "@" + long("b")} {
		aRollback(s).answers(t, full(), api.ErrMissing)
		aRollback(s).answers(t, none(), api.ErrMissing)
	}
}

func TestP13_3_RollbackBehindADrop(t *testing.T) {
	x := aDrop("aa").answers(t, full(), api.OK)
	aRollback("a@n").answers(t, x, api.ErrBusy)
	x = aDrop("a@m").answers(t, x, api.OK)
	x = aRollback("a@n").answers(t, x, api.OK)
	if a := named(x, "a"); a.Size != 7 || a.Root.Birth != 60 || a.Quota != 33 || a.Reserve != 17 || a.Made != 6 {
		t.Error(text(x))
	}
	x = aSnap("a@z", 69).answers(t, x, api.OK) // made ahead of a@n: not the newest one
	aRollback("a@z").answers(t, x, api.ErrBusy)
	aRollback("a@n").answers(t, x, api.OK)
	x = aSnap("a@b", 70).answers(t, x, api.OK) // as of a@n, of a greater ID
	aRollback("a@b").answers(t, x, api.OK)
	aRollback("a@n").answers(t, x, api.ErrBusy)
}
