package usage

import "caulker/api"

// bits are holders of a row, one bit for each.
type bits uint64

// width is how many holders a row has at most: one for each of the bits.
const width = 64

func bit(i int) bits { return 1 << i }

func (b bits) has(i int) bool { return b&bit(i) != 0 }

// row is holders side by side, the number of the first one, and which of them are named. There may be any number of holders, and a small number has room for a row of them alone.
type row struct {
	first   int
	holders [][]api.Addr
	named   bits
}

// rows parts holders into rows in which those are named that some numbers name.
func rows(l [][]api.Addr, numbers []int) []row {
	var all []row
	for first := 0; first < len(l); first += width {
		all = append(all, row{first: first, holders: l[first:min(first+width, len(l))]})
	}
	for _, n := range numbers {
		if n >= 0 && n < len(l) {
			all[n/width].named |= bit(n % width)
		}
	}
	return all
}

// who tells of each address that a row's holders have, which of them have it.
type who map[api.Addr]bits

func (r row) count() who {
	w := who{}
	for i, l := range r.holders {
		for _, a := range l {
			w[a] |= bit(i)
		}
	}
	return w
}

// where tells those of whose bits something is true, in any order: addr puts them in theirs.
func (w who) where(is func(has bits) bool) []api.Addr {
	var l []api.Addr
	for a, has := range w {
		if is(has) {
			l = append(l, a)
		}
	}
	return l
}
