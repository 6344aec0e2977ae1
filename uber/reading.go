package uber

import (
	"errors"
	"math"

	"caulker/api"
	"caulker/field"
	"caulker/hash"
	"caulker/pointer"
)

// What a step may find wrong.
var (
	errSize    = errors.New("other than a sector's number of bytes")
	errBlank   = errors.New("a sector of noughts")
	errDamaged = errors.New("no uberblock's sector")
)

// reading is bytes that are read step by step. No step asks what those ahead of it found wrong: that is joined.
type reading struct {
	size   int
	sector [api.Sector]byte // cut, or with noughts behind, where there are more or fewer bytes: so that each step has its own
	fields *field.Reader    // of what is digested
	u      api.Uber
	wrong  error
}

// Unpack reads the uberblock of a sector.
func Unpack(b []byte) (api.Uber, api.Errno) {
	r := begin(b).whole().written().mark().pool().txg().length().root().rest().digest().may()
	if e := r.errno(); e != api.OK {
		return api.Uber{}, e
	}
	return r.u, api.OK
}

func begin(b []byte) *reading {
	r := &reading{size: len(b)}
	copy(r.sector[:], b)
	r.fields = field.Open(r.sector[:digested])
	return r
}

// errno tells the first, in the promise's order, of all that is wrong.
func (r *reading) errno() api.Errno {
	switch {
	case errors.Is(r.wrong, errSize):
		return api.ErrBytes
	case errors.Is(r.wrong, errBlank):
		return api.ErrMissing
	case errors.Is(r.wrong, errDamaged):
		return api.ErrDamaged
	}
	return api.OK
}

func (r *reading) demand(holds bool, wrong error) *reading {
	if !holds {
		r.wrong = errors.Join(r.wrong, wrong)
	}
	return r
}

func (r *reading) whole() *reading { return r.demand(r.size == api.Sector, errSize) }

func (r *reading) written() *reading {
	return r.demand(r.sector != [api.Sector]byte{}, errBlank)
}

func (r *reading) mark() *reading {
	return r.demand(string(r.fields.Raw(len(mark))) == mark, errDamaged)
}

func (r *reading) pool() *reading {
	r.u.Pool = api.ID(r.fields.Raw(poolBytes))
	return r
}

func (r *reading) txg() *reading {
	r.u.Txg = r.number(txgBytes)
	return r
}

func (r *reading) length() *reading {
	r.u.Len = r.number(lenBytes)
	return r
}

func (r *reading) root() *reading {
	p, fault := pointer.Read(r.fields.Raw(rootBytes))
	r.u.Root = p
	return r.demand(fault.Err == api.OK, errDamaged)
}

// rest is the one step that may leave a fault in the reader.
func (r *reading) rest() *reading {
	r.fields.Rest()
	return r.demand(r.fields.Fault().Err == api.OK, errDamaged)
}

func (r *reading) digest() *reading {
	return r.demand(hash.Sum(r.sector[:digested]) == api.ID(r.sector[digested:]), errDamaged)
}

// may comes behind the fields: whether a root may be hangs on the Txg.
func (r *reading) may() *reading { return r.demand(mayBe(r.u), errDamaged) }

// number takes any number of a size: which of them may be is asked once, by may.
func (r *reading) number(size int) int { return r.fields.Num(size, 0, math.MaxInt) }
