package usage_test

import (
	"slices"
	"testing"

	"caulker/api"
	"caulker/usage"
)

// roomy is holders and numbers, each list of which has others' behind it as spare room, which counts nothing.
func (d *dice) roomy() (l [][]api.Addr, numbers []int) {
	n := 1 + d.below(140)
	whole := d.holders(n+5, 6)
	for i, h := range whole {
		whole[i] = h[:len(h)/2]
	}
	l = whole[:n]
	numbers = slices.Concat(d.named(n), []int{d.below(n), d.below(n), d.below(n)})
	return l, numbers[:len(numbers)-3]
}

// full is a list with its spare room.
func full[T any](l []T) []T { return l[:cap(l)] }

func fullHolders(l [][]api.Addr) [][]api.Addr {
	out := slices.Clone(full(l))
	for i, h := range out {
		out[i] = full(h)
	}
	return out
}

func TestP14_1_WhatIsHandedInStays(t *testing.T) {
	d := dice(5)
	for range 400 {
		l, numbers := d.roomy()
		wasL, wasN, was, named := cloned(fullHolders(l)), slices.Clone(full(numbers)), cloned(l), slices.Clone(numbers)
		for _, c := range sets() {
			if got, want := c.do(l, numbers), c.want(was, named); !slices.Equal(got, want) {
				t.Fatalf("%s of %v, %v: the spare room counts: %v, want %v", c.name, l, numbers, got, want)
			}
		}
		a, i := at(d.number(), d.number()), first(numbers)
		if got, want := usage.Holders(l, a), having(was, a); !slices.Equal(got, want) {
			t.Fatalf("Holders of %v: the spare room counts: %v, want %v", a, got, want)
		}
		if got, want := usage.Referenced(l, i), len(sharedOf(was, []int{i})); got != want {
			t.Fatalf("Referenced of %d: the spare room counts: %d, want %d", i, got, want)
		}
		if !same(fullHolders(l), wasL) || !slices.Equal(full(numbers), wasN) {
			t.Fatal("what was handed in is changed")
		}
	}
}

func TestP14_2_WhatIsToldIsNewMemory(t *testing.T) {
	risen := []api.Addr{at(0, 5), at(1, 5), at(1, 6)} // a set already
	for _, l := range [][][]api.Addr{
		{risen},
		{risen, nil},
		{risen, {at(1, 5)}, {at(2, 5), at(2, 5)}},
		{{at(1, 5)}, {at(1, 6), at(0, 5), at(1, 6)}, make([]api.Addr, 0, 4), risen[:1]},
		append(make([][]api.Addr, 64, 200), []api.Addr{at(9, 9)}, risen),
		append([][]api.Addr{risen}, make([][]api.Addr, 64, 200)...),
	} {
		for _, numbers := range [][]int{nil, {0}, {0, 1}, all(len(l)), {len(l) - 1, len(l) - 1}, {len(l) - 1, 0}} {
			roomL, roomN := fullHolders(l), full(numbers)
			wasL, wasN := cloned(roomL), slices.Clone(roomN)
			stays := func(what string) {
				if !same(fullHolders(l), wasL) || !same(roomL, wasL) || !slices.Equal(roomN, wasN) {
					t.Fatalf("%s of %v, %v: the answer shares memory with what was handed in", what, wasL, wasN)
				}
			}
			for _, c := range sets() {
				one, other := c.do(l, numbers), c.do(l, numbers)
				want := slices.Clone(other)
				spoil(one, at(7, 77))
				equal(t, c.name+": two answers share memory", other, want)
				stays(c.name)
			}
			one, other := usage.Holders(l, at(1, 5)), usage.Holders(l, at(1, 5))
			want := slices.Clone(other)
			spoil(one, 77)
			equal(t, "Holders: two answers share memory", other, want)
			stays("Holders")
		}
	}
}

func TestP14_2_WhatIsHandedInIsNotKept(t *testing.T) {
	for _, numbers := range [][]int{{0}, {1}, {0, 1}, {1, 2, 0}} {
		for _, c := range sets() {
			l, n := three(), slices.Clone(numbers)
			got, holders := c.do(l, n), usage.Holders(l, at(1, 5))
			want := c.want(three(), numbers)
			for _, h := range l {
				spoil(h, at(3, 3))
			}
			spoil(l, nil)
			spoil(n, 2)
			equal(t, c.name+" behind a change of what was handed in", got, want)
			equal(t, c.name+" behind another call", c.do(three(), numbers), want)
			equal(t, "Holders behind a change of what was handed in", holders, []int{0, 1})
		}
	}
}
