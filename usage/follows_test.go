package usage_test

import (
	"slices"
	"testing"

	"caulker/addr"
	"caulker/api"
	"caulker/usage"
)

// left are the holders without those that some numbers name.
func left(l [][]api.Addr, gone []int) [][]api.Addr {
	var out [][]api.Addr
	for i, h := range l {
		if !slices.Contains(gone, i) {
			out = append(out, h)
		}
	}
	return out
}

// emptied are all the holders; those that some numbers name have nothing.
func emptied(l [][]api.Addr, gone []int) [][]api.Addr {
	out := slices.Clone(l)
	for _, i := range gone {
		if i >= 0 && i < len(l) {
			out[i] = nil
		}
	}
	return out
}

// pools are holders, few and many, and numbers of some of them.
func pools(seed dice, see func(d *dice, l [][]api.Addr, numbers []int)) {
	for range 1200 {
		l := seed.holders(seed.below(7), 8)
		see(&seed, l, seed.named(len(l)))
	}
	for _, n := range many() {
		for range 12 {
			l := seed.holders(n, 1+seed.below(4))
			see(&seed, l, seed.named(n))
			see(&seed, l, having(l, at(0, 0)))
		}
	}
}

func TestP14_3_FreedAndTheOthersAreAll(t *testing.T) {
	pools(6, func(_ *dice, l [][]api.Addr, drop []int) {
		freed, others := usage.Freed(l, drop), usage.All(left(l, drop))
		if got := usage.All(emptied(l, drop)); !slices.Equal(got, others) {
			t.Fatalf("%v without %v: All: %v, and %v", l, drop, got, others)
		}
		if both := addr.Both(freed, others); len(both) != 0 {
			t.Fatalf("%v without %v: freed, and still had: %v", l, drop, both)
		}
		if together := addr.Union(freed, others); !slices.Equal(together, usage.All(l)) {
			t.Fatalf("%v without %v: freed %v, others %v", l, drop, freed, others)
		}
	})
}

func TestP14_3_OneDropBehindTheOther(t *testing.T) {
	pools(7, func(d *dice, l [][]api.Addr, _ []int) {
		if len(l) < 2 {
			return
		}
		i := d.below(len(l))
		j := (i + 1 + d.below(len(l)-1)) % len(l)
		moved := j // what j's number is without i
		if j > i {
			moved--
		}
		one, both := usage.Freed(l, []int{i}), usage.Freed(l, []int{i, j})
		for _, other := range [][]api.Addr{
			usage.Freed(left(l, []int{i}), []int{moved}),
			usage.Freed(emptied(l, []int{i}), []int{j}),
			usage.Unique(left(l, []int{i}), moved),
		} {
			if got := addr.Union(one, other); !slices.Equal(got, both) || len(one)+len(other) != len(both) {
				t.Fatalf("%v: %d frees %v, then %d %v, both %v", l, i, one, j, other, both)
			}
		}
	})
}

func TestP14_3_AllDropsOneBehindTheOther(t *testing.T) {
	d := dice(8)
	for range 60 {
		l := d.holders(1+d.below(90), 5)
		was, freed, gone := usage.All(l), []api.Addr(nil), []int(nil)
		for now := l; len(gone) < len(l); now = left(l, gone) {
			i := d.below(len(now))
			next := usage.Freed(now, []int{i})
			if !slices.Equal(next, usage.Unique(now, i)) {
				t.Fatalf("%v: Freed of %d alone: %v", now, i, next)
			}
			freed = append(freed, next...)
			there := slices.DeleteFunc(all(len(l)), func(n int) bool { return slices.Contains(gone, n) })
			gone = append(gone, there[i])
			if got, want := addr.Sort(freed), usage.Freed(l, gone); !slices.Equal(got, want) || len(got) != len(freed) {
				t.Fatalf("%v: %v free %v, one behind the other %v", l, gone, want, freed)
			}
		}
		equal(t, "freed in the end", addr.Sort(freed), was)
	}
}

func TestP14_3_WhatFollowsFromWhoHasIt(t *testing.T) {
	pools(9, func(_ *dice, l [][]api.Addr, numbers []int) {
		for i := range min(len(l), 20) {
			one := usage.Shared(l, []int{i})
			if len(one) != usage.Referenced(l, i) || !slices.Equal(one, addr.Sort(l[i])) {
				t.Fatalf("%v: %d has %v, which are %d", l, i, one, usage.Referenced(l, i))
			}
		}
		for _, c := range sets() {
			told := c.do(l, numbers)
			if !slices.Equal(told, addr.Sort(told)) {
				t.Fatalf("%s of %v, %v does not rise: %v", c.name, l, numbers, told)
			}
			for _, a := range told[:min(len(told), 10)] {
				if has := usage.Holders(l, a); len(has) == 0 || !slices.IsSorted(has) || !slices.Contains(usage.Shared(l, has), a) || !slices.Contains(usage.Freed(l, has), a) {
					t.Fatalf("%s of %v, %v: %v, which %v have", c.name, l, numbers, a, has)
				}
			}
		}
	})
}

// The addresses of an array as great as may be, and as many holders as a pool has at most, with its table.
func TestP14_3_AsGreatAsAPoolMayBe(t *testing.T) {
	l := make([][]api.Addr, api.MaxSets+1)
	for dev := range api.MaxDevs {
		for sector := api.First; sector < api.MaxSectors; sector++ {
			l[sector%17] = append(l[sector%17], at(dev, sector))
			if sector%3 == 0 {
				l[sector%16] = append(l[sector%16], at(dev, sector))
			}
		}
	}
	drop := []int{16, 3, 4, 5}
	freed, others := usage.Freed(l, drop), usage.All(left(l, drop))
	if both := addr.Both(freed, others); len(both) != 0 || !slices.Equal(addr.Union(freed, others), usage.All(l)) || len(freed) == 0 {
		t.Errorf("%d freed, %d still had, %d in common", len(freed), len(others), len(both))
	}
	if n := len(usage.All(l)); n != 8*4091 {
		t.Error(n)
	}
}
