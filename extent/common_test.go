package extent_test

import (
	"math"
	"slices"
	"strconv"
	"strings"
	"testing"

	"caulker/api"
	"caulker/extent"
)

// dice is a row of numbers that looks like chance and is the same in each run.
type dice uint64

func (d *dice) below(n int) int {
	*d = *d*6364136223846793005 + 1442695040888963407
	return int(uint64(*d) >> 33 % uint64(n))
}

// list is one that may be: of some, all, or no sectors, in short or long runs.
func (d *dice) list() []api.Extent {
	var l []api.Extent
	longest := []int{1, 3, 40, 700, 4096}[d.below(5)]
	for at := d.below(longest); at < 4096 && d.below(60) != 0; {
		size := min(1+d.below(longest), 4096-at)
		l = append(l, api.Extent{At: at, Size: size})
		at += size + 1 + d.below(longest)
	}
	return l
}

// near is one that may be, most of whose runs begin or end where one of l does, or by one or two beside it.
func (d *dice) near(l []api.Extent) []api.Extent {
	var places []int
	for _, run := range l {
		places = append(places, run.At+d.below(5)-2, run.At+run.Size+d.below(5)-2, d.below(4096))
	}
	slices.Sort(places)
	return listOf(0, 4095, func(s int) bool {
		i, _ := slices.BinarySearch(places, s)
		return i%2 == 1
	})
}

// of is runs, told as At and Size in turn.
func of(l ...int) []api.Extent {
	var out []api.Extent
	for i := 0; i < len(l); i += 2 {
		out = append(out, api.Extent{At: l[i], Size: l[i+1]})
	}
	return out
}

// text is a list as the chapter's examples have it, cut where it grows too long to be looked at.
func text(l []api.Extent) string {
	if len(l) == 0 {
		return "none"
	}
	var parts []string
	for i, run := range l {
		if i == 20 {
			parts = append(parts, "and", strconv.Itoa(len(l)-i), "more")
			break
		}
		parts = append(parts, strconv.Itoa(run.At)+"+"+strconv.Itoa(run.Size))
	}
	return strings.Join(parts, " ")
}

// listOf is the list of the sectors from low to high that are to be had, found by asking for each of them.
func listOf(low, high int, has func(s int) bool) []api.Extent {
	var l []api.Extent
	for s := low; s <= high; s++ {
		switch {
		case !has(s):
		case s > low && has(s-1):
			l[len(l)-1].Size++
		default:
			l = append(l, api.Extent{At: s, Size: 1})
		}
	}
	return l
}

// picked is the list of the sectors whose bits are set, of seven from low on.
func picked(low, bits int) []api.Extent {
	return listOf(low, low+6, func(s int) bool { return bits>>(s-low)&1 == 1 })
}

// among is whether a list has a sector.
func among(l []api.Extent, s int) bool {
	for _, run := range l {
		if s >= run.At && s-run.At < run.Size {
			return true
		}
	}
	return false
}

// sectorsOf is what a list has, found by asking for each sector that there is.
func sectorsOf(l []api.Extent) []int {
	var out []int
	for s := range 4096 {
		if among(l, s) {
			out = append(out, s)
		}
	}
	return out
}

// may is whether a list of runs may be, as the chapter's words have it.
func may(l []api.Extent) bool {
	for i, run := range l {
		if run.Size < 1 || run.Size > 4096 || run.At < 0 || run.At > 4095 || run.At+run.Size-1 > 4095 {
			return false
		}
		if i > 0 && run.At <= l[i-1].At+l[i-1].Size {
			return false
		}
	}
	return true
}

// numbers are such about which the limits stand, and such as are one of them when bits are lost, or in a sum that is too great.
func numbers() []int {
	return []int{math.MinInt, math.MinInt + 1, math.MinInt + 4096, -1 << 32, -4096, -2, -1, 0, 1, 2, 3, 2048, 4094, 4095, 4096, 4097, 1 << 16, 1 << 31, 1 << 32, 1<<32 + 1, 1 << 62, math.MaxInt - 4096, math.MaxInt - 1, math.MaxInt}
}

// rightLists are some that may be.
func rightLists() [][]api.Extent {
	evens := listOf(0, 4095, func(s int) bool { return s%2 == 0 })
	odds := listOf(0, 4095, func(s int) bool { return s%2 == 1 })
	return [][]api.Extent{
		nil, {}, make([]api.Extent, 0, 4),
		of(0, 1), of(4095, 1), of(3, 2), of(0, 4096), of(0, 4095), of(1, 4095), of(4094, 2),
		of(3, 2, 6, 1), of(0, 1, 2, 1), of(0, 1, 4095, 1), of(0, 2047, 2048, 2048), of(0, 1, 2, 4094), of(0, 4094, 4095, 1),
		of(5, 1, 7, 2, 10, 3, 14, 4), evens, odds,
	}
}

// wrongLists are some that may not be.
func wrongLists() [][]api.Extent {
	l := [][]api.Extent{
		of(0, 0), of(5, 0), of(5, -1), of(0, -4096), of(4095, 0), of(4096, 0), // no sector
		of(-1, 1), of(-1, 2), of(-1, 4096), of(-5, 3), of(4096, 1), of(4097, 1), of(4095, 2), of(4094, 3), of(0, 4097), of(1, 4096), // beyond the sectors
		of(1, math.MaxInt), of(4095, math.MaxInt), of(0, math.MaxInt), of(math.MaxInt, 1), of(math.MaxInt, math.MaxInt), of(math.MinInt, 1), of(math.MinInt, math.MinInt), of(math.MinInt, math.MaxInt), of(0, 1<<62), of(0, 1<<32+1), of(1<<32, 1), // beyond numbers
		of(3, 2, 5, 1), of(3, 2, 4, 1), of(3, 2, 4, 4), of(3, 2, 3, 2), of(3, 9, 5, 1), of(4, 1, 3, 1), of(6, 1, 3, 2), of(6, 1, 0, 3), of(3, 1, 5, 1, 6, 1), of(0, 1, 1, 4095), // meet, touch, stand the wrong way round
		of(3, 2, 6, 0), of(3, 0, 6, 1), of(3, 2, -1, 1), of(-1, 1, 3, 2), of(3, 2, 4095, 2), of(4095, 2, 3, 2), of(4095, 1, 4096, 1), of(4095, 1, 4097, 1), of(3, 2, 6, 1, 5, 1), of(3, 2, 6, 1, 0, 1),
		of(3, -1, 6, 1), of(3, 2, 9, -2, 8, 1), of(3, 2, 6, -1), of(0, 4097, 5000, 1), of(3, math.MaxInt, 6, 1), of(3, 2, 7, math.MaxInt), of(6, math.MaxInt, 3, 1), of(3, 2, 7, math.MinInt, 9, 1),
	}
	evens := listOf(0, 4095, func(s int) bool { return s%2 == 0 })
	for _, i := range []int{0, 1, 1000, 2046} { // many, one of which is wrong
		longer, twice := slices.Clone(evens), slices.Insert(slices.Clone(evens), i, evens[i])
		longer[i].Size++ // touches the next one
		l = append(l, longer, twice)
	}
	return append(l, append(evens, api.Extent{At: 4096, Size: 1}))
}

// spoil lays a run at all places of a list, its spare room too.
func spoil(l []api.Extent) {
	l = l[:cap(l)]
	for i := range l {
		l[i] = api.Extent{At: 2222, Size: 77}
	}
}

// call is one that tells a list of two lists, and what it should tell.
type call struct {
	name string
	do   func(l, m []api.Extent) ([]api.Extent, api.Errno)
	take func(inL, inM bool) bool
}

func calls() []call {
	return []call{
		{"Add", extent.Add, func(inL, inM bool) bool { return inL || inM }},
		{"Cut", extent.Cut, func(inL, inM bool) bool { return inL && !inM }},
		{"Both", extent.Both, func(inL, inM bool) bool { return inL && inM }},
	}
}

// holds demands that a call answers a list, and this error.
func holds(t *testing.T, what string, l []api.Extent, e api.Errno, want []api.Extent, wanted api.Errno) {
	t.Helper()
	if e != wanted || !slices.Equal(l, want) {
		t.Fatalf("%s: %s, %v; want %s, %v", what, text(l), e, text(want), wanted)
	}
}
