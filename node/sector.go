package node

import (
	"caulker/api"
	"caulker/pointer"
)

// Where a node's pointers begin in its sector, and how many bytes each of them has.
const (
	pointersAt  = 1
	pointerSize = 47
)

// sector is a node's bytes.
type sector [api.Sector]byte

// room is where one of the pointers stands.
func (s *sector) room(i int) []byte {
	return s[pointersAt+i*pointerSize:][:pointerSize]
}

// sectorOf tells the bytes of a node that may be.
func sectorOf(n api.Node) sector {
	s := sector{byte(n.Level)}
	for i, p := range &n.P {
		b, _ := pointer.Bytes(p)
		copy(s.room(i), b)
	}
	return s
}

// nodeOf tells the node whose level and pointers a sector has, if these can be read; whether it may be, and what stands behind them, is not looked at.
func nodeOf(s sector) (api.Node, bool) {
	n := api.Node{Level: int(s[0])}
	for i := range &n.P {
		p, fault := pointer.Read(s.room(i))
		if fault.Err != api.OK {
			return api.Node{}, false
		}
		n.P[i] = p
	}
	return n, true
}
