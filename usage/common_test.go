package usage_test

import (
	"math"
	"slices"
	"testing"

	"caulker/api"
	"caulker/usage"
)

// dice is a row of numbers that looks like chance and is the same in each run.
type dice uint64

func (d *dice) below(n int) int {
	*d = *d*6364136223846793005 + 1442695040888963407
	return int(uint64(*d) >> 33 % uint64(n))
}

func at(dev, sector int) api.Addr { return api.Addr{Dev: dev, At: sector} }

// number is one of a device or a sector: of few, so that addresses meet; at some no block may lie.
func (d *dice) number() int {
	l := []int{0, 1, 5, 6, 7, -1, 4097, math.MinInt, math.MaxInt}
	return l[d.below(2+d.below(len(l)-1))]
}

// list is what a holder has: some of them come twice.
func (d *dice) list(most int) []api.Addr {
	var l []api.Addr
	for range d.below(most + 1) {
		l = append(l, at(d.number(), d.number()))
	}
	return l
}

func (d *dice) holders(n, most int) [][]api.Addr {
	l := make([][]api.Addr, n)
	for i := range l {
		l[i] = d.list(most)
	}
	return l
}

// many are more than others: about the bits of small numbers of each size.
func many() []int {
	return []int{7, 8, 9, 15, 16, 17, 31, 32, 33, 63, 64, 65, 127, 128, 129, 191, 192, 193, 200}
}

// nobody are numbers that name none of n holders.
func nobody(n int) []int {
	return []int{-1, n, -2, n + 1, -n, 2 * n, -63, -64, -65, n + 63, n + 64, n + 65, -1 << 31, 1 << 31, -1 << 32, 1 << 32, math.MinInt, math.MaxInt, math.MinInt + 1, math.MaxInt - 1}
}

// named are numbers of some of n holders, and of nobody, in any order; some come twice.
func (d *dice) named(n int) []int {
	var l []int
	for range d.below(1 + d.below(2*n+2)) {
		if n > 0 && d.below(4) > 0 {
			l = append(l, d.below(n))
		} else {
			l = append(l, nobody(n)[d.below(len(nobody(n)))])
		}
	}
	return l
}

// all is the numbers of n holders.
func all(n int) []int {
	l := []int{}
	for i := range n {
		l = append(l, i)
	}
	return l
}

func ahead(a, b api.Addr) int {
	switch {
	case a.Dev < b.Dev || a.Dev == b.Dev && a.At < b.At:
		return -1
	case a == b:
		return 0
	}
	return 1
}

// met is each address that one of the holders has, once, rising.
func met(l [][]api.Addr) []api.Addr {
	together := slices.Concat(l...)
	slices.SortFunc(together, ahead)
	return slices.Compact(together)
}

// chosen is the set of those of the holders' addresses that are to be taken, the long way: asked one by one who has them.
func chosen(l [][]api.Addr, take func(has []int) bool) []api.Addr {
	var out []api.Addr
	for _, a := range met(l) {
		if take(having(l, a)) {
			out = append(out, a)
		}
	}
	return out
}

func having(l [][]api.Addr, a api.Addr) []int {
	var has []int
	for i, h := range l {
		if slices.Contains(h, a) {
			has = append(has, i)
		}
	}
	return has
}

func uniqueOf(l [][]api.Addr, i int) []api.Addr {
	return chosen(l, func(has []int) bool { return slices.Equal(has, []int{i}) })
}

func freedOf(l [][]api.Addr, drop []int) []api.Addr {
	return chosen(l, func(has []int) bool {
		return !slices.ContainsFunc(has, func(i int) bool { return !slices.Contains(drop, i) })
	})
}

func sharedOf(l [][]api.Addr, some []int) []api.Addr {
	count := slices.DeleteFunc(slices.Clone(some), func(i int) bool { return i < 0 || i >= len(l) })
	return chosen(l, func(has []int) bool {
		return len(count) > 0 && !slices.ContainsFunc(count, func(i int) bool { return !slices.Contains(has, i) })
	})
}

// set is a call that tells a set of holders and numbers, and what it should tell.
type set struct {
	name string
	do   func(l [][]api.Addr, numbers []int) []api.Addr
	want func(l [][]api.Addr, numbers []int) []api.Addr
}

// sets are all of them; Unique takes the first number.
func sets() []set {
	return []set{
		{"Unique",
			func(l [][]api.Addr, n []int) []api.Addr { return usage.Unique(l, first(n)) },
			func(l [][]api.Addr, n []int) []api.Addr { return uniqueOf(l, first(n)) }},
		{"All",
			func(l [][]api.Addr, _ []int) []api.Addr { return usage.All(l) },
			func(l [][]api.Addr, _ []int) []api.Addr { return met(l) }},
		{"Freed", usage.Freed, freedOf},
		{"Shared", usage.Shared, sharedOf},
	}
}

// first is the first of some numbers, or that of nobody.
func first(numbers []int) int { return append(slices.Clone(numbers), -1)[0] }

func equal[T comparable](t *testing.T, what string, got, want []T) {
	t.Helper()
	if !slices.Equal(got, want) {
		t.Errorf("%s: %v, want %v", what, got, want)
	}
}

func cloned(l [][]api.Addr) [][]api.Addr {
	if l == nil {
		return nil
	}
	out := make([][]api.Addr, len(l))
	for i, h := range l {
		out[i] = slices.Clone(h)
	}
	return out
}

func same(a, b [][]api.Addr) bool { return slices.EqualFunc(a, b, slices.Equal[[]api.Addr]) }

// spoil lays x at all places of a list, its spare room too.
func spoil[T any](l []T, x T) {
	l = l[:cap(l)]
	for i := range l {
		l[i] = x
	}
}
