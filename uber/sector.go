package uber

import (
	"caulker/api"
	"caulker/field"
	"caulker/hash"
	"caulker/pointer"
)

// mark stands ahead, so that an uberblock is told from other things that end in a digest.
const mark = "CAULKER2"

// digested is how many bytes the digest at the end is of.
const digested = api.Sector - len(api.ID{})

// How many bytes the fields have, as they are written and read.
const (
	poolBytes = len(api.ID{})
	txgBytes  = 5
	lenBytes  = 3
	rootBytes = 47
)

// Pack writes an uberblock as a sector.
func Pack(u api.Uber) ([]byte, api.Errno) {
	if e := Check(u); e != api.OK {
		return nil, e
	}
	head := headOf(u)
	sum := hash.Sum(head)
	return append(head, sum[:]...), api.OK
}

// headOf tells what the digest is of, of an uberblock that may be: neither its root nor its numbers are refused then.
func headOf(u api.Uber) []byte {
	root, _ := pointer.Bytes(u.Root)
	w := field.New()
	w.Raw([]byte(mark))
	w.Raw(u.Pool[:])
	w.Num(u.Txg, txgBytes)
	w.Num(u.Len, lenBytes)
	w.Raw(root)
	w.Pad(digested)
	head, _ := w.Out()
	return head
}
