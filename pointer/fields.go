package pointer

import "caulker/api"

// Where the fields begin of a pointer's bytes, and how many bytes these are.
const (
	addrsAt  = 1
	addrSize = 3
	birthAt  = addrsAt + api.MaxCopies*addrSize
	levelAt  = birthAt + 4
	sumAt    = levelAt + 1
	size     = sumAt + len(api.ID{})
)

// fields are bytes that grow field by field.
type fields []byte

// number writes a number in so much room, the highest byte first.
func (f fields) number(n, room int) fields {
	for i := range room {
		f = append(f, byte(n>>(8*(room-1-i))))
	}
	return f
}

func (f fields) addr(a api.Addr) fields { return f.number(a.Dev, 1).number(a.At, 2) }

// addrs writes all that a pointer may have: noughts where there is none.
func (f fields) addrs(l []api.Addr) fields {
	var all [api.MaxCopies]api.Addr
	copy(all[:], l)
	f = f.number(len(l), 1)
	for _, a := range all {
		f = f.addr(a)
	}
	return f
}

func (f fields) sum(id api.ID) fields { return append(f, id[:]...) }

// fieldsOf tells the bytes of a pointer that may be.
func fieldsOf(p api.Pointer) fields {
	return make(fields, 0, size).addrs(p.Addrs).number(p.Birth, 4).number(p.Level, 1).sum(p.Sum)
}

// pointerOf tells the pointer of as many bytes as one has; whether it may be, and what stands in unused places, is not looked at.
func pointerOf(b []byte) api.Pointer {
	n := number(b[:addrsAt])
	demandWithin(n, 0, api.MaxCopies) // more have no room in these bytes
	p := api.Pointer{Birth: number(b[birthAt:levelAt]), Level: number(b[levelAt:sumAt])}
	for i := range n {
		p.Addrs = append(p.Addrs, addr(b[addrsAt+i*addrSize:][:addrSize]))
	}
	copy(p.Sum[:], b[sumAt:])
	return p
}

func addr(b []byte) api.Addr { return api.Addr{Dev: number(b[:1]), At: number(b[1:])} }

// number tells the number of bytes, the highest first.
func number(b []byte) int {
	n := 0
	for _, x := range b {
		n = n<<8 | int(x)
	}
	return n
}
