package array

import "caulker/api"

// write is a loose one.
type write struct {
	dev, at int
	bytes   [api.Sector]byte
}

// lay lays a write behind all others; its sector tells it from then on.
func (a *Array) lay(dev, at int, b []byte) {
	w := &write{dev: dev, at: at, bytes: [api.Sector]byte(b)}
	a.row = append(a.row, w)
	a.sector(dev, at).last = w
}

// settle makes the first n bytes of a write firm. The other loose writes to its sector, if there are any, are settled by the same call, in their order: none of them is the last one any more.
func (a *Array) settle(w *write, n int) {
	s := a.sector(w.dev, w.at)
	copy(s.firm[:n], w.bytes[:n])
	s.last = nil
}

// takeLoose takes a device's writes out of the row.
func (a *Array) takeLoose(dev int) []*write {
	its, others := part(a.row, func(w *write) bool { return w.dev == dev })
	a.row = others
	return its
}

// part parts a row in two by what is asked of each write: in both they stand as they were laid.
func part(row []*write, is func(w *write) bool) (those, others []*write) {
	for _, w := range row {
		if is(w) {
			those = append(those, w)
		} else {
			others = append(others, w)
		}
	}
	return those, others
}
