package dir_test

import (
	"testing"

	"caulker/api"
)

// spans tells whether a number is in it, as an error.
func spans(n, low, high int) api.Errno {
	if n < low || n > high {
		return api.ErrArg
	}
	return api.OK
}

func TestP13_5_Examples(t *testing.T) {
	aResize("a@x", 5).answers(t, three(), api.ErrReadOnly)
	aLimit("a", 65, 0).answers(t, three(), api.ErrArg)
}

func TestP13_5_WhatIsSet(t *testing.T) {
	p := root(4, at(1, 7))
	for _, c := range []struct {
		call
		do func(r *api.Record)
	}{
		{aResize("a", 5), func(r *api.Record) { r.Size = 5 }},
		{aResize("a", 10), func(r *api.Record) { r.Size = 10 }},
		{aResize("a", 9), func(r *api.Record) {}},
		{aLimit("a", 3, 2), func(r *api.Record) { r.Quota, r.Reserve = 3, 2 }},
		{aLimit("a", 2, 3), func(r *api.Record) { r.Quota, r.Reserve = 2, 3 }}, // no word sets one against the other
		{aLimit("a", 0, 0), func(r *api.Record) { r.Quota, r.Reserve = 0, 0 }},
		{aRoot("a", p), func(r *api.Record) { r.Root = p }},
		{aRoot("a", api.Pointer{}), func(r *api.Record) { r.Root = api.Pointer{} }},
		{aRoot("f", p), func(r *api.Record) { r.Root = p }},
	} {
		want := full()
		c.do(named(want, c.name))
		if x := c.answers(t, full(), api.OK); !same(x, want) {
			t.Errorf("%s: %s", text(c.call), text(x))
		}
	}
}

func TestP13_5_Numbers(t *testing.T) {
	numbers := append(far(), 0, 1, 2, 32, 63, 64, 65, 128, 257, 1<<31)
	for _, n := range numbers {
		aResize("aa", n).answers(t, full(), spans(n, 1, 64))
		for _, m := range numbers {
			want := max(spans(n, 0, 64), spans(m, 0, 64))
			aLimit("aa", n, m).answers(t, full(), want)
		}
	}
}

func TestP13_5_Roots(t *testing.T) {
	level := func(n int) api.Pointer { return api.Pointer{Addrs: []api.Addr{at(0, 5)}, Birth: 1, Level: n} }
	list := func(l ...api.Addr) api.Pointer { return api.Pointer{Addrs: l, Birth: 1, Level: 3} }
	birth := func(n int) api.Pointer { return api.Pointer{Addrs: []api.Addr{at(7, 4095)}, Birth: n, Level: 3} }
	for _, c := range []struct {
		root api.Pointer
		want api.Errno
	}{
		{api.Pointer{}, api.OK},
		{api.Pointer{Addrs: []api.Addr{}}, api.OK},
		{api.Pointer{Birth: 1}, api.ErrArg},
		{api.Pointer{Level: 3}, api.ErrArg},
		{api.Pointer{Sum: api.ID{5: 1}}, api.ErrArg},
		{api.Pointer{Birth: 1, Level: 3}, api.ErrArg},
		{level(-1), api.ErrArg},
		{level(0), api.ErrArg},
		{level(1), api.ErrArg},
		{level(2), api.ErrArg},
		{level(3), api.OK},
		{level(4), api.ErrArg},
		{level(259), api.ErrArg},
		{birth(0), api.ErrArg},
		{birth(1), api.OK},
		{birth(1 << 31), api.OK},
		{birth(1<<31 + 1), api.ErrArg},
		{birth(-1), api.ErrArg},
		{list(at(0, 5), at(3, 5), at(1, 5)), api.OK},
		{list(at(0, 5), at(3, 5), at(1, 5), at(2, 5)), api.ErrArg},
		{list(at(3, 5), at(0, 5), at(3, 6)), api.ErrArg},
		{list(at(3, 4)), api.ErrArg},
		{list(at(3, 4096)), api.ErrArg},
		{list(at(8, 5)), api.ErrArg},
		{list(at(-1, 5)), api.ErrArg},
		{list(api.Addr{}), api.ErrArg},
		{list(make([]api.Addr, 5000)...), api.ErrArg},
	} {
		for _, name := range []string{"a", "a-", "aa", "b", "f"} { // of a volume with and without snapshots, of a clone
			aRoot(name, c.root).answers(t, full(), c.want)
		}
		more := api.ErrReadOnly
		if c.want != api.OK {
			more = c.want
		}
		aRoot("a@m", c.root).answers(t, full(), more)
		missing := api.ErrMissing
		if c.want != api.OK {
			missing = c.want
		}
		aRoot("c", c.root).answers(t, full(), missing)
		aRoot("a@z", c.root).answers(t, full(), missing)
	}
}

func TestP13_5_NamesOfEachKind(t *testing.T) {
	p := root(1)
	for _, s := range odd() {
		for _, x := range several() {
			for _, c := range []call{aResize(s, 1), aLimit(s, 0, 0), aRoot(s, p), aRoot(s, api.Pointer{})} {
				c.answers(t, x, api.ErrArg)
			}
		}
	}
	for _, s := range []string{"c", "z", "a1", "a@z", "c@x", "aa@m", long("a"), long("a") + "@" + long("x")} {
		for _, x := range several() {
			for _, c := range []call{aResize(s, 1), aLimit(s, 0, 0), aRoot(s, p)} {
				if named(x, s) == nil {
					c.answers(t, x, api.ErrMissing)
				}
			}
			for _, c := range []call{aResize(s, 0), aLimit(s, 0, -1), aLimit(s, 65, 0), aRoot(s, api.Pointer{Level: 3})} {
				c.answers(t, x, api.ErrArg)
			}
		}
	}
}

func TestP13_5_SnapshotsStay(t *testing.T) {
	for _, x := range several() {
		for _, r := range x.Records {
			want := api.OK
			if r.Kind == api.KindSnapshot {
				want = api.ErrReadOnly
			}
			aResize(r.Name, r.Size).answers(t, x, want)
			aResize(r.Name, 64).answers(t, x, want)
			aLimit(r.Name, r.Quota, r.Reserve).answers(t, x, want)
			aRoot(r.Name, r.Root).answers(t, x, want)
			aResize(r.Name, 65).answers(t, x, api.ErrArg)
			aLimit(r.Name, 0, 65).answers(t, x, api.ErrArg)
			aLimit(r.Name, -1, 0).answers(t, x, api.ErrArg)
			aRoot(r.Name, api.Pointer{Birth: 1}).answers(t, x, api.ErrArg)
		}
	}
}
