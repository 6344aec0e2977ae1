package alloc_test

import (
	"math"
	"slices"
	"strconv"
	"strings"
	"testing"

	"caulker/alloc"
	"caulker/api"
)

// dice is a row of numbers that looks like chance and is the same in each run.
type dice uint64

func (d *dice) below(n int) int {
	*d = *d*6364136223846793005 + 1442695040888963407
	return int(uint64(*d) >> 33 % uint64(n))
}

func at(dev, sector int) api.Addr { return api.Addr{Dev: dev, At: sector} }

// list is the addresses of a text, each as Dev.At.
func list(text string) []api.Addr {
	var l []api.Addr
	for _, word := range strings.Fields(text) {
		dev, sector, _ := strings.Cut(word, ".")
		x, e := strconv.Atoi(dev)
		y, f := strconv.Atoi(sector)
		if e != nil || f != nil {
			panic("no address: " + word)
		}
		l = append(l, at(x, y))
	}
	return l
}

// places are all of so many devices of so many sectors, rising.
func places(devs, sectors int) []api.Addr {
	var l []api.Addr
	for dev := range devs {
		for sector := 5; sector < sectors; sector++ {
			l = append(l, at(dev, sector))
		}
	}
	return l
}

// all is a list of so many that are there.
func all(n int) []bool { return slices.Repeat([]bool{true}, n) }

// picked is who is there: the bits that are set, of n.
func picked(n, bits int) []bool {
	there := make([]bool, n)
	for i := range there {
		there[i] = bits>>i&1 == 1
	}
	return there
}

// nobody are numbers of none of n things.
func nobody(n int) []int {
	return []int{-1, n, -2, n + 1, -n, 2 * n, n + 255, n + 256, n + 65536, -256, -64, 1 << 31, 1 << 32, 1<<32 + n - 1, -1 << 31, -1 << 32, 1<<40 + 1, math.MinInt, math.MinInt + 1, math.MaxInt - 1, math.MaxInt}
}

// nowhere are addresses that are no places of so many devices of so many sectors.
func nowhere(devs, sectors int) []api.Addr {
	l := list("0.0 0.1 0.2 0.3 0.4 1.4 -1.-1")
	for _, n := range nobody(devs) {
		l = append(l, at(n, 5), at(n, sectors-1), at(n, 0))
	}
	for _, n := range nobody(sectors) {
		l = append(l, at(0, n), at(devs-1, n))
	}
	return append(l, at(devs-1, 0), at(devs-1, 4), at(devs, sectors))
}

func made(t testing.TB, devs, sectors int, used ...api.Addr) *alloc.Alloc {
	t.Helper()
	a, e := alloc.New(devs, sectors, used)
	if e != api.OK || a == nil {
		t.Fatalf("New(%d, %d, %v): %v, %v", devs, sectors, used, a, e)
	}
	return a
}

// fine demands that calls answer OK.
func fine(t testing.TB, l ...api.Errno) {
	t.Helper()
	errs(t, api.OK, l...)
}

// errs demands that calls answer an error.
func errs(t testing.TB, want api.Errno, l ...api.Errno) {
	t.Helper()
	for i, e := range l {
		if e != want {
			t.Fatalf("call %d: %v, want %v", i, e, want)
		}
	}
}

// takes demands what is taken, in this order.
func takes(t testing.TB, a *alloc.Alloc, there []bool, copies int, want ...api.Addr) {
	t.Helper()
	if l, e := a.Take(there, copies); e != api.OK || !slices.Equal(l, want) {
		t.Fatalf("Take(%v, %d): %v, %v; want %v", there, copies, l, e, want)
	}
}

// noTake demands that Take and Room answer an error; where there is no room Room says so by 0.
func noTake(t testing.TB, a *alloc.Alloc, there []bool, copies int, want api.Errno) {
	t.Helper()
	if l, e := a.Take(there, copies); e != want || len(l) != 0 {
		t.Fatalf("Take(%v, %d): %v, %v; want %v", there, copies, l, e, want)
	}
	if want == api.ErrNoSpace {
		want = api.OK
	}
	if n, e := a.Room(there, copies); e != want || n != 0 {
		t.Fatalf("Room(%v, %d): %d, %v; want %v", there, copies, n, e, want)
	}
}

func room(t testing.TB, a *alloc.Alloc, there []bool, copies, want int) {
	t.Helper()
	if n, e := a.Room(there, copies); e != api.OK || n != want {
		t.Fatalf("Room(%v, %d): %d, %v; want %d", there, copies, n, e, want)
	}
}

// has demands that just these are used of so many devices of so many sectors, as all calls tell it that tell it.
func has(t testing.TB, what string, a *alloc.Alloc, devs, sectors int, want ...api.Addr) {
	t.Helper()
	if got := a.Used(); !slices.Equal(got, want) {
		t.Fatalf("%s: used %v, want %v", what, got, want)
	}
	free := slices.Repeat([]int{sectors - 5}, devs)
	used := map[api.Addr]bool{}
	for _, x := range want {
		free[x.Dev]--
		used[x] = true
	}
	if got := a.Free(); !slices.Equal(got, free) {
		t.Fatalf("%s: free %v, want %v", what, got, free)
	}
	for _, x := range places(devs, sectors) {
		if a.Has(x) != used[x] {
			t.Fatalf("%s: Has(%v): %t", what, x, a.Has(x))
		}
	}
	for _, x := range nowhere(devs, sectors) {
		if a.Has(x) {
			t.Fatalf("%s: Has(%v) of %d devices of %d sectors", what, x, devs, sectors)
		}
	}
}
