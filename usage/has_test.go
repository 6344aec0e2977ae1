package usage_test

import (
	"fmt"
	"math"
	"slices"
	"testing"

	"caulker/api"
	"caulker/usage"
)

// three are the holders of the chapter's examples.
func three() [][]api.Addr {
	return [][]api.Addr{{at(0, 5), at(1, 5)}, {at(1, 5), at(1, 6), at(1, 5)}, nil}
}

func TestP14_1_Examples(t *testing.T) {
	l := three()
	for i, want := range []int{2, 2, 0, 0} {
		if n := usage.Referenced(l, i); n != want {
			t.Errorf("Referenced of %d: %d", i, n)
		}
	}
	equal(t, "Unique of 0", usage.Unique(l, 0), []api.Addr{at(0, 5)})
	equal(t, "Unique of 1", usage.Unique(l, 1), []api.Addr{at(1, 6)})
	equal(t, "All", usage.All(l), []api.Addr{at(0, 5), at(1, 5), at(1, 6)})
}

func TestP14_1_NoHolder(t *testing.T) {
	for _, l := range [][][]api.Addr{nil, {}, make([][]api.Addr, 0, 4)} {
		for _, i := range append(nobody(0), 0) {
			if n := usage.Referenced(l, i); n != 0 {
				t.Errorf("Referenced of %d: %d", i, n)
			}
			equal(t, fmt.Sprint("Unique of ", i), usage.Unique(l, i), nil)
		}
		equal(t, "All", usage.All(l), nil)
	}
}

func TestP14_1_HoldersWithoutAddresses(t *testing.T) {
	for _, n := range append(many(), 1, 2, 3) {
		l := make([][]api.Addr, n)
		l[n-1] = []api.Addr{}
		for i := range n {
			if n := usage.Referenced(l, i); n != 0 {
				t.Errorf("Referenced of %d: %d", i, n)
			}
			equal(t, fmt.Sprint("Unique of ", i), usage.Unique(l, i), nil)
		}
		equal(t, "All", usage.All(l), nil)
	}
}

func TestP14_1_OneHolder(t *testing.T) {
	l := [][]api.Addr{{at(2, 5), at(0, 9), at(2, 5), at(0, 6), {}, at(2, 5)}}
	set := []api.Addr{{}, at(0, 6), at(0, 9), at(2, 5)}
	if n := usage.Referenced(l, 0); n != 4 {
		t.Error(n)
	}
	equal(t, "Unique", usage.Unique(l, 0), set)
	equal(t, "All", usage.All(l), set)
	for _, i := range nobody(1) {
		if n := usage.Referenced(l, i); n != 0 {
			t.Errorf("Referenced of %d: %d", i, n)
		}
		equal(t, fmt.Sprint("Unique of ", i), usage.Unique(l, i), nil)
	}
}

func TestP14_1_TwoThatHaveTheSame(t *testing.T) {
	both := []api.Addr{at(3, 9), at(0, 5), at(3, 9)}
	turned := []api.Addr{at(0, 5), at(3, 9), at(0, 5)}
	for _, l := range [][][]api.Addr{{both, both}, {both, turned}, {nil, turned, both}} {
		for i, h := range l {
			if n := usage.Referenced(l, i); n != 2*min(1, len(h)) {
				t.Errorf("%v: Referenced of %d: %d", l, i, n)
			}
			equal(t, fmt.Sprint(l, ": Unique of ", i), usage.Unique(l, i), nil)
		}
		equal(t, fmt.Sprint(l, ": All"), usage.All(l), []api.Addr{at(0, 5), at(3, 9)})
	}
}

func TestP14_1_HadByOneSomeAllNone(t *testing.T) {
	l := [][]api.Addr{{at(0, 6), at(0, 7), at(0, 8)}, {at(0, 5), at(0, 7), at(0, 8)}, {at(0, 8), at(0, 7)}, {at(0, 8), at(7, 1)}}
	for i, want := range [][]api.Addr{{at(0, 6)}, {at(0, 5)}, nil, {at(7, 1)}} {
		equal(t, fmt.Sprint("Unique of ", i), usage.Unique(l, i), want)
	}
	for i, want := range []int{3, 3, 2, 2} {
		if n := usage.Referenced(l, i); n != want {
			t.Errorf("Referenced of %d: %d", i, n)
		}
	}
	equal(t, "All", usage.All(l), []api.Addr{at(0, 5), at(0, 6), at(0, 7), at(0, 8), at(7, 1)})
}

func TestP14_1_AddressesAreToldApart(t *testing.T) {
	l := [][]api.Addr{{at(5, 6)}, {at(6, 5)}, {at(5, 5)}, {at(6, 6)}, {at(5, 6+1<<32)}, {at(5+1<<32, 6)}, {at(-5, 6)}, {at(5, -6)}}
	for i, h := range l {
		equal(t, fmt.Sprint("Unique of ", i), usage.Unique(l, i), h)
	}
	equal(t, "All", usage.All(l), []api.Addr{at(-5, 6), at(5, -6), at(5, 5), at(5, 6), at(5, 6+1<<32), at(6, 5), at(6, 6), at(5+1<<32, 6)})
}

func TestP14_1_AddressesAtTheEnds(t *testing.T) {
	l := [][]api.Addr{
		{at(math.MaxInt, math.MinInt), at(0, 0), at(math.MinInt, math.MaxInt), at(8, 4096)},
		{at(math.MaxInt, math.MaxInt), at(0, 0), at(-1, 4), at(math.MinInt, math.MinInt)},
	}
	equal(t, "Unique of 0", usage.Unique(l, 0), []api.Addr{at(math.MinInt, math.MaxInt), at(8, 4096), at(math.MaxInt, math.MinInt)})
	equal(t, "Unique of 1", usage.Unique(l, 1), []api.Addr{at(math.MinInt, math.MinInt), at(-1, 4), at(math.MaxInt, math.MaxInt)})
	equal(t, "All", usage.All(l), []api.Addr{at(math.MinInt, math.MinInt), at(math.MinInt, math.MaxInt), at(-1, 4), at(0, 0), at(8, 4096), at(math.MaxInt, math.MinInt), at(math.MaxInt, math.MaxInt)})
	if a, b := usage.Referenced(l, 0), usage.Referenced(l, 1); a != 4 || b != 4 {
		t.Error(a, b)
	}
}

// Each of many holders has one of its own, one with the next one, one with that at the other end of all, and one with all.
func TestP14_1_ManyHolders(t *testing.T) {
	for _, n := range many() {
		l := make([][]api.Addr, n)
		for i := range l {
			l[i] = []api.Addr{at(3, 3), at(0, i), at(1, i), at(1, (i+1)%n), at(2, min(i, n-1-i)), at(0, i)}
		}
		for i := range l {
			own := []api.Addr{at(0, i)}
			if i == n-1-i {
				own = append(own, at(2, i)) // the middle one is its own other end
			}
			equal(t, fmt.Sprint(i, " of ", n), usage.Unique(l, i), own)
			if got := usage.Referenced(l, i); got != 5 {
				t.Errorf("%d of %d: %d", i, n, got)
			}
		}
		if got := usage.All(l); len(got) != 1+n+n+(n+1)/2 || !slices.IsSortedFunc(got, ahead) {
			t.Errorf("of %d: %v", n, got)
		}
		for _, i := range nobody(n) {
			if got := usage.Referenced(l, i); got != 0 {
				t.Errorf("%d of %d: %d", i, n, got)
			}
			equal(t, fmt.Sprint(i, " of ", n), usage.Unique(l, i), nil)
		}
	}
}

func TestP14_1_OfAny(t *testing.T) {
	d := dice(1)
	for range 1500 {
		l := d.holders(d.below(6), 7)
		for _, i := range append(all(len(l)), nobody(len(l))...) {
			wantN := 0
			if i >= 0 && i < len(l) {
				wantN = len(met(l[i : i+1]))
			}
			if n := usage.Referenced(l, i); n != wantN {
				t.Fatalf("%v: Referenced of %d: %d, want %d", l, i, n, wantN)
			}
			if got, want := usage.Unique(l, i), uniqueOf(l, i); !slices.Equal(got, want) {
				t.Fatalf("%v: Unique of %d: %v, want %v", l, i, got, want)
			}
		}
		if got, want := usage.All(l), met(l); !slices.Equal(got, want) {
			t.Fatalf("%v: All: %v, want %v", l, got, want)
		}
	}
}

func TestP14_1_OfManyAny(t *testing.T) {
	d := dice(2)
	for _, n := range many() {
		for range 4 {
			l := d.holders(n, 1)
			l[n-1] = append(l[n-1], at(9, n))
			for i := range l {
				if got, want := usage.Unique(l, i), uniqueOf(l, i); !slices.Equal(got, want) {
					t.Fatalf("%v: Unique of %d: %v, want %v", l, i, got, want)
				}
				if got, want := usage.Referenced(l, i), len(met(l[i:i+1])); got != want {
					t.Fatalf("%v: Referenced of %d: %d, want %d", l, i, got, want)
				}
			}
			if got, want := usage.All(l), met(l); !slices.Equal(got, want) {
				t.Fatalf("%v: All: %v, want %v", l, got, want)
			}
		}
	}
}
