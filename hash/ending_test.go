package hash

import (
	"encoding/binary"
	"testing"
)

// The count of bits has to hold of as many bytes as the document's bound allows, which are too many to be made here.
func TestP2_1_EndingOfMany(t *testing.T) {
	for _, n := range []int{0, 55, 56, 64, 1<<28 - 1, 1 << 28, 1<<29 - 1, 1 << 29, 1 << 30, 1<<31 - 1} {
		end := ending(n)
		last := len(end) - 8
		if (n+len(end))%64 != 0 || last < 1 || last > 64 || end[0] != 128 {
			t.Errorf("%d bytes: ends with %v", n, end)
			continue
		}
		for _, x := range end[1:last] {
			if x != 0 {
				t.Errorf("%d bytes: ends with %v", n, end)
			}
		}
		if got := binary.BigEndian.Uint64(end[last:]); got != uint64(n)*8 {
			t.Errorf("%d bytes: said to be %d bits", n, got)
		}
	}
}
