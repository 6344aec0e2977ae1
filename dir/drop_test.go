package dir_test

import (
	"slices"
	"strings"
	"testing"

	"caulker/api"
	"caulker/record"
)

func TestP13_4_Examples(t *testing.T) {
	aDrop("a").answers(t, three(), api.ErrBusy)
	aDrop("a@x").answers(t, three(), api.ErrBusy)
	x := aDrop("b").answers(t, three(), api.OK)
	x = aDrop("a@x").answers(t, x, api.OK)
	if called(x) != "a" || x.Next != 4 {
		t.Error(text(x))
	}
	x = aRename("a", "c").answers(t, three(), api.OK)
	if called(x) != "b c c@x" {
		t.Error(text(x))
	}
	aRename("a", "b").answers(t, three(), api.ErrExists)
	aRename("a@x", "b@x").answers(t, three(), api.ErrArg)
	aRename("a", "a").answers(t, three(), api.ErrExists)
}

func TestP13_4_WhatIsDropped(t *testing.T) {
	want := map[string]api.Errno{
		"a": api.ErrBusy, "a@n": api.ErrBusy, "b": api.ErrBusy, "b@y": api.ErrBusy, "f": api.ErrBusy, "f@a": api.ErrBusy,
	}
	for i, r := range full().Records {
		x := aDrop(r.Name).answers(t, full(), want[r.Name])
		left := full()
		left.Records = slices.Delete(left.Records, i, i+1)
		if want[r.Name] == api.OK && !same(x, left) {
			t.Errorf("%s: %s", r.Name, text(x))
		}
	}
}

func TestP13_4_DropNames(t *testing.T) {
	for _, s := range odd() {
		for _, x := range several() {
			aDrop(s).answers(t, x, api.ErrArg)
		}
	}
	for _, s := range []string{"c", "z", "aaa", "a@x", "aa@m", "c@x", long("a"), long("a") + "@" + long("x")} {
		aDrop(s).answers(t, full(), api.ErrMissing)
		aDrop(s).answers(t, none(), api.ErrMissing)
	}
}

func TestP13_4_DropTillNoneIsLeft(t *testing.T) {
	x := full()
	for _, s := range []string{"aa", "a@n", "a@m", "a", "a-", "b@z", "b@x", "d", "f@b"} {
		x = aDrop(s).answers(t, x, api.OK)
		aDrop(s).answers(t, x, api.ErrMissing)
	}
	if called(x) != "b b@y f f@a" || x.Next != 40 {
		t.Fatal(text(x))
	}
	aDrop("f").answers(t, x, api.ErrBusy) // a clone of its own snapshot, which no call makes
	aDrop("f@a").answers(t, x, api.ErrBusy)
	x = three()
	for _, s := range []string{"b", "a@x", "a"} {
		x = aDrop(s).answers(t, x, api.OK)
	}
	if want := next(none(), 4); !same(x, want) {
		t.Error(text(x))
	}
}

func TestP13_4_DropOfAVolumeThatIsAClone(t *testing.T) {
	x := aSnap("b@q", 3).answers(t, three(), api.OK)
	aDrop("b").answers(t, x, api.ErrBusy)
	x = aDrop("b@q").answers(t, x, api.OK)
	x = aClone("a@x", "d", 9).answers(t, x, api.OK)
	x = aDrop("b").answers(t, x, api.OK)
	aDrop("a@x").answers(t, x, api.ErrBusy) // one more clone is there
	x = aDrop("d").answers(t, x, api.OK)
	aDrop("a@x").answers(t, x, api.OK)
}

func TestP13_4_WhereARenamedOneStands(t *testing.T) {
	for _, c := range []struct{ name, to, want string }{
		{"a", "ab", "a- aa ab ab@m ab@n b b@x b@y b@z d f f@a f@b"},
		{"a", "c", "a- aa b b@x b@y b@z c c@m c@n d f f@a f@b"},
		{"a", "z", "a- aa b b@x b@y b@z d f f@a f@b z z@m z@n"},
		{"a", "a.", "a- a. a.@m a.@n aa b b@x b@y b@z d f f@a f@b"},
		{"f", "a0", "a a@m a@n a- a0 a0@a a0@b aa b b@x b@y b@z d"},
		{"b", "a--", "a a@m a@n a- a-- a--@x a--@y a--@z aa d f f@a f@b"},
		{"b", "bb", "a a@m a@n a- aa bb bb@x bb@y bb@z d f f@a f@b"},
		{"a-", "b-", "a a@m a@n aa b b@x b@y b@z b- d f f@a f@b"},
		{"aa", "e", "a a@m a@n a- b b@x b@y b@z d e f f@a f@b"},
		{"d", "aaa", "a a@m a@n a- aa aaa b b@x b@y b@z f f@a f@b"},
		{"a@m", "a@a", "a a@a a@n a- aa b b@x b@y b@z d f f@a f@b"},
		{"a@m", "a@o", "a a@n a@o a- aa b b@x b@y b@z d f f@a f@b"},
		{"a@m", "a@mm", "a a@mm a@n a- aa b b@x b@y b@z d f f@a f@b"},
		{"b@z", "b@a", "a a@m a@n a- aa b b@a b@x b@y d f f@a f@b"},
		{"b@x", "b@y-", "a a@m a@n a- aa b b@y b@y- b@z d f f@a f@b"},
		{"f@b", "f@" + long("a"), "a a@m a@n a- aa b b@x b@y b@z d f f@a f@" + long("a")},
		{"f", long("f"), "a a@m a@n a- aa b b@x b@y b@z d " + long("f") + " " + long("f") + "@a " + long("f") + "@b"},
	} {
		x := aRename(c.name, c.to).answers(t, full(), api.OK)
		if called(x) != c.want {
			t.Errorf("%s to %s: %s", c.name, c.to, called(x))
		}
		back := aRename(c.to, c.name).answers(t, x, api.OK)
		if !same(back, full()) {
			t.Errorf("%s to %s and back: %s", c.name, c.to, text(back))
		}
		for _, r := range full().Records { // all but names goes with them
			r.Name = strings.Replace(r.Name, c.name+"@", c.to+"@", 1)
			if r.Name == c.name {
				r.Name = c.to
			}
			i, is := record.Find(x, r.Name)
			if !is || !same(api.Table{Records: x.Records[i : i+1]}, api.Table{Records: []api.Record{r}}) {
				t.Errorf("%s to %s: %s: %s", c.name, c.to, r.Name, text(x))
			}
		}
	}
}

func TestP13_4_RenameToWhatIsThere(t *testing.T) {
	for _, x := range several() {
		for _, r := range x.Records {
			aRename(r.Name, r.Name).answers(t, x, api.ErrExists)
			for _, o := range x.Records {
				want := api.ErrExists
				if r.Kind != o.Kind || r.Of != o.Of {
					want = api.ErrArg
				}
				aRename(r.Name, o.Name).answers(t, x, want)
			}
		}
	}
}

func TestP13_4_RenameNamesOfEachKind(t *testing.T) {
	for _, x := range []api.Table{none(), three(), full()} {
		for _, s := range append(odd(), "c@x", "aa@x", "f@x", "a", "c") { // to another volume's, or another kind
			aRename("a@m", s).answers(t, x, api.ErrArg)
			aRename(s, "a@o").answers(t, x, api.ErrArg)
		}
		for _, s := range append(odd(), "a@m", "a@o", "c@c") {
			aRename("a", s).answers(t, x, api.ErrArg)
			aRename("c", s).answers(t, x, api.ErrArg)
			aRename(s, "a").answers(t, x, api.ErrArg)
			aRename(s, "c").answers(t, x, api.ErrArg)
		}
		for _, s := range odd() {
			for _, to := range odd() {
				aRename(s, to).answers(t, x, api.ErrArg)
			}
		}
	}
	for _, c := range []call{aRename("c", "e"), aRename("c", "a"), aRename("c", "c"), aRename("a@o", "a@p"), aRename("a@o", "a@m"), aRename("a@o", "a@o"), aRename("c@m", "c@n")} {
		c.answers(t, full(), api.ErrMissing)
		c.answers(t, none(), api.ErrMissing)
	}
}

func TestP13_4_RenameWhereThereIsNoRoomForMore(t *testing.T) {
	for _, x := range []api.Table{many(16), next(many(16), 1<<31), next(three(), 1<<31)} {
		for _, r := range x.Records {
			aRename(r.Name, r.Name+"1").answers(t, x, api.OK)
		}
	}
}
