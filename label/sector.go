package label

import (
	"bytes"
	"math"

	"caulker/api"
	"caulker/field"
	"caulker/hash"
)

// mark stands ahead, so that a label is told from other things that end in a digest.
const mark = "CAULKER1"

// digested is how many bytes the digest at the end is of.
const digested = api.Sector - len(api.ID{})

// How many bytes the fields have, as they are written and read.
const (
	poolBytes    = len(api.ID{})
	smallBytes   = 1 // of Dev, Devs and Copies
	sectorsBytes = 2
	lifeBytes    = 5
)

// Pack writes a label as a sector.
func Pack(l api.Label) ([]byte, api.Errno) {
	if e := Check(l); e != api.OK {
		return nil, e
	}
	w := field.New()
	for _, write := range steps(l) {
		write(w)
	}
	return w.Out()
}

// steps are done in order: each writes behind those ahead of it, the last one the digest of what they wrote.
func steps(l api.Label) []func(w *field.Writer) {
	return []func(w *field.Writer){
		func(w *field.Writer) { w.Raw([]byte(mark)) },
		func(w *field.Writer) { w.Raw(l.Pool[:]) },
		func(w *field.Writer) { w.Num(l.Dev, smallBytes) },
		func(w *field.Writer) { w.Num(l.Devs, smallBytes) },
		func(w *field.Writer) { w.Num(l.Copies, smallBytes) },
		func(w *field.Writer) { w.Num(l.Sectors, sectorsBytes) },
		func(w *field.Writer) { w.Num(l.Life, lifeBytes) },
		func(w *field.Writer) { w.Pad(digested) },
		func(w *field.Writer) { w.Raw(digest(w)) },
	}
}

// digest is that of what was written; an error of the writer stays there, and is told by its Out.
func digest(w *field.Writer) []byte {
	b, _ := w.Out()
	sum := hash.Sum(b)
	return sum[:]
}

// Unpack reads the label of a sector. What is read is packed again and held against the sector, so that nothing but what Pack writes is taken for a label.
func Unpack(b []byte) (api.Label, api.Errno) {
	if len(b) != api.Sector {
		return api.Label{}, api.ErrBytes
	}
	if bytes.Count(b, []byte{0}) == len(b) {
		return api.Label{}, api.ErrMissing
	}
	l := fields(b)
	if again, e := Pack(l); e != api.OK || !bytes.Equal(again, b) {
		return api.Label{}, api.ErrDamaged
	}
	return l, api.OK
}

// fields are what stands in a sector's places, whether it may be or not.
func fields(b []byte) api.Label {
	r := field.Open(b)
	r.Raw(len(mark))
	num := func(size int) int { return r.Num(size, 0, math.MaxInt) }
	var l api.Label
	l.Pool = api.ID(r.Raw(poolBytes))
	l.Dev, l.Devs, l.Copies = num(smallBytes), num(smallBytes), num(smallBytes)
	l.Sectors, l.Life = num(sectorsBytes), num(lifeBytes)
	return l
}
