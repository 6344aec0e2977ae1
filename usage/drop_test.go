package usage_test

import (
	"fmt"
	"math"
	"slices"
	"testing"

	"caulker/api"
	"caulker/usage"
)

func TestP14_2_Examples(t *testing.T) {
	l := three()
	equal(t, "Freed of 0", usage.Freed(l, []int{0}), []api.Addr{at(0, 5)})
	equal(t, "Freed of 0 1 7", usage.Freed(l, []int{0, 1, 7}), []api.Addr{at(0, 5), at(1, 5), at(1, 6)})
	equal(t, "Freed of none", usage.Freed(l, nil), nil)
	equal(t, "Shared of 0 1", usage.Shared(l, []int{0, 1}), []api.Addr{at(1, 5)})
	equal(t, "Shared of 0 2", usage.Shared(l, []int{0, 2}), nil)
	equal(t, "Shared of 0 9", usage.Shared(l, []int{0, 9}), []api.Addr{at(0, 5), at(1, 5)})
	equal(t, "Shared of none", usage.Shared(l, nil), nil)
	equal(t, "Holders of 1.5", usage.Holders(l, at(1, 5)), []int{0, 1})
	equal(t, "Holders of 2.5", usage.Holders(l, at(2, 5)), nil)
}

func TestP14_2_NoHolder(t *testing.T) {
	for _, l := range [][][]api.Addr{nil, {}, make([][]api.Addr, 0, 4)} {
		for _, numbers := range [][]int{nil, {}, {0}, {0, 1}, {-1}, nobody(0)} {
			equal(t, "Freed", usage.Freed(l, numbers), nil)
			equal(t, "Shared", usage.Shared(l, numbers), nil)
		}
		equal(t, "Holders", usage.Holders(l, api.Addr{}), nil)
	}
}

func TestP14_2_HoldersWithoutAddresses(t *testing.T) {
	for _, n := range append(many(), 1, 2, 3) {
		l := make([][]api.Addr, n)
		for _, numbers := range [][]int{nil, {0}, {n - 1}, all(n), nobody(n)} {
			equal(t, "Freed", usage.Freed(l, numbers), nil)
			equal(t, "Shared", usage.Shared(l, numbers), nil)
		}
		equal(t, "Holders", usage.Holders(l, api.Addr{}), nil)
		l[n-1] = []api.Addr{at(0, 5), at(0, 5)}
		equal(t, "Freed of the last", usage.Freed(l, []int{n - 1}), []api.Addr{at(0, 5)})
		equal(t, "Freed of all", usage.Freed(l, all(n)), []api.Addr{at(0, 5)})
		equal(t, "Freed of all others", usage.Freed(l, all(n-1)), nil)
		equal(t, "Shared of the last", usage.Shared(l, []int{n - 1}), []api.Addr{at(0, 5)})
		equal(t, "Holders", usage.Holders(l, at(0, 5)), []int{n - 1})
		if n > 1 {
			equal(t, "Shared of the ends", usage.Shared(l, []int{n - 1, 0}), nil)
			equal(t, "Shared of all", usage.Shared(l, all(n)), nil)
		}
	}
}

func TestP14_2_NumbersThatNameNobody(t *testing.T) {
	for _, n := range append(many(), 1, 2, 3) {
		l := make([][]api.Addr, n)
		for i := range l {
			l[i] = []api.Addr{at(0, 5), at(1, i)}
		}
		for _, x := range nobody(n) {
			equal(t, fmt.Sprint("Freed of ", x), usage.Freed(l, []int{x}), nil)
			equal(t, fmt.Sprint("Shared of ", x), usage.Shared(l, []int{x, x}), nil)
			for _, i := range []int{0, n - 1, n / 2} {
				for _, numbers := range [][]int{{x, i}, {i, x}, {x, i, x}} {
					equal(t, fmt.Sprint("Shared of ", numbers), usage.Shared(l, numbers), l[i])
					want := []api.Addr{at(1, i)}
					if n == 1 {
						want = l[0]
					}
					equal(t, fmt.Sprint("Freed of ", numbers), usage.Freed(l, numbers), want)
				}
			}
			equal(t, fmt.Sprint("Freed of all and ", x), usage.Freed(l, append(all(n), x)), met(l))
			want := []api.Addr{at(0, 5)}
			if n == 1 {
				want = l[0]
			}
			equal(t, fmt.Sprint("Shared of all and ", x), usage.Shared(l, append([]int{x}, all(n)...)), want)
		}
		equal(t, "Freed of nobody", usage.Freed(l, nobody(n)), nil)
		equal(t, "Shared of nobody", usage.Shared(l, nobody(n)), nil)
	}
}

func TestP14_2_NumbersInAnyOrder(t *testing.T) {
	l := [][]api.Addr{{at(0, 5), at(0, 6), at(2, 9)}, {at(0, 6), at(0, 7), at(2, 9)}, {at(0, 7), at(0, 5), at(2, 9)}, {at(0, 7), at(1, 1), at(2, 9)}}
	for _, x := range []struct {
		numbers       []int
		freed, shared []api.Addr
	}{
		{[]int{0, 1}, []api.Addr{at(0, 6)}, []api.Addr{at(0, 6), at(2, 9)}},
		{[]int{1, 0}, []api.Addr{at(0, 6)}, []api.Addr{at(0, 6), at(2, 9)}},
		{[]int{0, 0, 0}, nil, []api.Addr{at(0, 5), at(0, 6), at(2, 9)}}, // a number that is named twice counts once
		{[]int{3, 3}, []api.Addr{at(1, 1)}, []api.Addr{at(0, 7), at(1, 1), at(2, 9)}},
		{[]int{1, 0, 1, 0, 0}, []api.Addr{at(0, 6)}, []api.Addr{at(0, 6), at(2, 9)}},
		{[]int{2, 0}, []api.Addr{at(0, 5)}, []api.Addr{at(0, 5), at(2, 9)}},
		{[]int{3, 1, 2}, []api.Addr{at(0, 7), at(1, 1)}, []api.Addr{at(0, 7), at(2, 9)}},
		{[]int{3, 2, 1, 0}, met(l), []api.Addr{at(2, 9)}},
		{[]int{2, 0, 3, 1, 3}, met(l), []api.Addr{at(2, 9)}},
		{[]int{}, nil, nil},
	} {
		equal(t, fmt.Sprint("Freed of ", x.numbers), usage.Freed(l, x.numbers), x.freed)
		equal(t, fmt.Sprint("Shared of ", x.numbers), usage.Shared(l, x.numbers), x.shared)
	}
}

func TestP14_2_TwoThatHaveTheSame(t *testing.T) {
	both := []api.Addr{at(3, 9), at(0, 5), at(3, 9)}
	set := []api.Addr{at(0, 5), at(3, 9)}
	l := [][]api.Addr{both, {at(0, 5), at(3, 9)}}
	for i := range l {
		equal(t, "Freed of one", usage.Freed(l, []int{i}), nil)
		equal(t, "Freed of one, twice", usage.Freed(l, []int{i, i}), nil)
		equal(t, "Shared of one", usage.Shared(l, []int{i}), set)
	}
	equal(t, "Freed of both", usage.Freed(l, []int{1, 0}), set)
	equal(t, "Shared of both", usage.Shared(l, []int{1, 0}), set)
	for _, a := range set {
		equal(t, "Holders", usage.Holders(l, a), []int{0, 1})
	}
}

func TestP14_2_HoldersOfAnAddress(t *testing.T) {
	l := [][]api.Addr{{at(0, 6), at(0, 8)}, {at(0, 8), at(0, 5), at(0, 8)}, nil, {{}, at(0, 8), at(0, 6)}, {at(math.MinInt, math.MaxInt), at(0, 8)}}
	for _, x := range []struct {
		a    api.Addr
		want []int
	}{
		{at(0, 8), []int{0, 1, 3, 4}},
		{at(0, 6), []int{0, 3}},
		{at(0, 5), []int{1}},
		{api.Addr{}, []int{3}},
		{at(math.MinInt, math.MaxInt), []int{4}},
		{at(math.MaxInt, math.MinInt), nil},
		{at(8, 0), nil}, // its numbers are there, but the other way about
		{at(0, 7), nil},
		{at(-1, 8), nil},
	} {
		equal(t, fmt.Sprint("Holders of ", x.a), usage.Holders(l, x.a), x.want)
	}
}

// Of many holders i has those addresses of device 0 whose sector divides i + 1.
func TestP14_2_ManyHolders(t *testing.T) {
	for _, n := range many() {
		l := make([][]api.Addr, n)
		for i := range l {
			for by := i + 1; by >= 1; by-- {
				if (i+1)%by == 0 {
					l[i] = append(l[i], at(0, by))
				}
			}
		}
		for by := 1; by <= n+1; by++ {
			var has []int
			for i := by - 1; i < n; i += by {
				has = append(has, i)
			}
			equal(t, fmt.Sprint("Holders of ", by, " of ", n), usage.Holders(l, at(0, by)), has)
			if by > n {
				break
			}
			greatest := at(0, by)
			if freed := usage.Freed(l, has); !slices.Contains(freed, greatest) || !slices.Equal(freed, freedOf(l, has)) {
				t.Errorf("Freed of the holders of %d of %d: %v", by, n, freed)
			}
			if len(has) > 1 {
				if freed := usage.Freed(l, has[1:]); slices.Contains(freed, greatest) {
					t.Errorf("Freed of the later holders of %d of %d: %v", by, n, freed)
				}
				if freed := usage.Freed(l, has[:len(has)-1]); slices.Contains(freed, greatest) {
					t.Errorf("Freed of the earlier holders of %d of %d: %v", by, n, freed)
				}
			}
			if shared := usage.Shared(l, has); !slices.Contains(shared, greatest) || !slices.Equal(shared, sharedOf(l, has)) {
				t.Errorf("Shared of the holders of %d of %d: %v", by, n, shared)
			}
		}
		equal(t, "Shared of all", usage.Shared(l, all(n)), []api.Addr{at(0, 1)})
		equal(t, "Freed of all", usage.Freed(l, all(n)), met(l))
	}
}

// All of many have one address but a single one of them: that one is missed wherever it stands.
func TestP14_2_AllButOne(t *testing.T) {
	for _, n := range many() {
		for out := range n {
			l := make([][]api.Addr, n)
			for i := range l {
				l[i] = []api.Addr{at(1, 5)}
			}
			l[out] = []api.Addr{at(1, 6)}
			others := slices.Delete(all(n), out, out+1)
			equal(t, fmt.Sprint("Shared of all of ", n, " but ", out), usage.Shared(l, others), []api.Addr{at(1, 5)})
			equal(t, fmt.Sprint("Shared of all of ", n, ", ", out, " has it not"), usage.Shared(l, all(n)), nil)
			equal(t, fmt.Sprint("Holders of all of ", n, " but ", out), usage.Holders(l, at(1, 5)), others)
			equal(t, fmt.Sprint("Freed of all of ", n, " but ", out), usage.Freed(l, others), []api.Addr{at(1, 5)})
			l[out] = []api.Addr{at(1, 6), at(1, 5)}
			equal(t, fmt.Sprint("Freed of all of ", n, " but ", out, " that has it"), usage.Freed(l, others), nil)
			equal(t, fmt.Sprint("Freed of ", out, " of ", n), usage.Freed(l, []int{out}), []api.Addr{at(1, 6)})
			equal(t, fmt.Sprint("Shared of all of ", n), usage.Shared(l, all(n)), []api.Addr{at(1, 5)})
		}
	}
}

func TestP14_2_OfAny(t *testing.T) {
	d := dice(3)
	for range 4000 {
		l := d.holders(d.below(7), 7)
		numbers := d.named(len(l))
		if got, want := usage.Freed(l, numbers), freedOf(l, numbers); !slices.Equal(got, want) {
			t.Fatalf("%v: Freed of %v: %v, want %v", l, numbers, got, want)
		}
		if got, want := usage.Shared(l, numbers), sharedOf(l, numbers); !slices.Equal(got, want) {
			t.Fatalf("%v: Shared of %v: %v, want %v", l, numbers, got, want)
		}
		for _, a := range append(met(l), at(d.number(), d.number())) {
			if got, want := usage.Holders(l, a), having(l, a); !slices.Equal(got, want) {
				t.Fatalf("%v: Holders of %v: %v, want %v", l, a, got, want)
			}
		}
	}
}

func TestP14_2_OfManyAny(t *testing.T) {
	d := dice(4)
	for _, n := range many() {
		for range 60 {
			l := d.holders(n, d.below(5))
			for _, numbers := range [][]int{d.named(n), d.named(n), having(l, at(0, 0)), having(l, at(0, 1)), all(n), {0, n - 1}} {
				if got, want := usage.Freed(l, numbers), freedOf(l, numbers); !slices.Equal(got, want) {
					t.Fatalf("%v: Freed of %v: %v, want %v", l, numbers, got, want)
				}
				if got, want := usage.Shared(l, numbers), sharedOf(l, numbers); !slices.Equal(got, want) {
					t.Fatalf("%v: Shared of %v: %v, want %v", l, numbers, got, want)
				}
			}
			for _, a := range []api.Addr{at(0, 0), at(0, 1), at(5, 0), at(-1, 7), at(9, 9)} {
				if got, want := usage.Holders(l, a), having(l, a); !slices.Equal(got, want) {
					t.Fatalf("%v: Holders of %v: %v, want %v", l, a, got, want)
				}
			}
		}
	}
}

// So many that what grows with the holders times their addresses would not end.
func TestP14_2_VeryMany(t *testing.T) {
	const n = 100_000
	l := make([][]api.Addr, n)
	var even, own []int
	for i := range l {
		l[i] = []api.Addr{at(i, 5)}
		if i%2 == 0 {
			l[i] = append(l[i], at(-1, 5))
			even = append(even, i)
		}
		own = append(own, n-1-i)
	}
	if got := usage.All(l); len(got) != n+1 || got[0] != at(-1, 5) || got[n] != at(n-1, 5) {
		t.Error(len(got))
	}
	if got := usage.Freed(l, own); len(got) != n+1 {
		t.Error(len(got))
	}
	if got := usage.Freed(l, own[1:]); len(got) != n {
		t.Error(len(got))
	}
	if got := usage.Freed(l, even); len(got) != n/2+1 {
		t.Error(len(got))
	}
	equal(t, "Shared", usage.Shared(l, even), []api.Addr{at(-1, 5)})
	equal(t, "Holders", usage.Holders(l, at(-1, 5)), even)
	equal(t, "Unique", usage.Unique(l, n-1), []api.Addr{at(n-1, 5)})
	if got := usage.Referenced(l, n-2); got != 2 {
		t.Error(got)
	}
}
