package ring_test

import (
	"math"
	"testing"

	"caulker/api"
	"caulker/ring"
)

// stands demands what Slot tells.
func stands(t *testing.T, txg, want int, wanted bool) {
	t.Helper()
	if slot, is := ring.Slot(txg); slot != want || is != wanted {
		t.Fatalf("Slot(%d): %d, %t; want %d, %t", txg, slot, is, want, wanted)
	}
}

func TestP10_1_Examples(t *testing.T) {
	stands(t, 1, 2, true)
	stands(t, 4, 1, true)
	stands(t, 7, 4, true)
	stands(t, 0, 0, false)
	stands(t, 1<<31, 1, true)
}

func TestP10_1_OneToEight(t *testing.T) {
	for i, want := range []int{2, 3, 4, 1, 2, 3, 4, 1} {
		stands(t, i+1, want, true)
	}
}

func TestP10_1_TheLastOnes(t *testing.T) {
	for i, want := range []int{1, 2, 3, 4, 1} {
		stands(t, 1<<31-4+i, want, true)
	}
	stands(t, api.MaxTxg, 1, true)
}

func TestP10_1_NoCommits(t *testing.T) {
	for _, txg := range []int{-1, -2, -3, -4, -5, -8, -1 << 31, -1 << 32, math.MinInt, math.MinInt + 1, math.MinInt + 3} {
		stands(t, txg, 0, false)
	}
	for _, txg := range []int{1<<31 + 1, 1<<31 + 2, 1<<31 + 3, 1<<31 + 4, 1<<32 - 1, 1 << 32, 1<<32 + 1, 1<<40 + 7, math.MaxInt - 1, math.MaxInt} {
		stands(t, txg, 0, false)
	}
}

func TestP10_1_OneByOne(t *testing.T) {
	for txg := -70000; txg <= 0; txg++ {
		stands(t, txg, 0, false)
	}
	for txg := 1; txg < 70000; txg++ {
		stands(t, txg, 1+place(txg), true)
	}
	d := dice(1)
	for range 10000 {
		txg := 1 + d.below(1<<31)
		stands(t, txg, 1+place(txg), true)
	}
}
