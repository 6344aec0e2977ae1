package record

import (
	"bytes"

	"caulker/api"
	"caulker/pointer"
)

// rootBytes is how many bytes a pointer has.
const rootBytes = 47

// Read tells the table of bytes.
func Read(b []byte) (api.Table, api.Fault) {
	var t api.Table
	r := begin(b).four(&t.Next).records(&t.Records).cursor(&t.Cursor).lives(&t.Lives).end().told(&t)
	if r.fault.Err != api.OK {
		return api.Table{}, r.fault
	}
	return t, api.Fault{}
}

// reading is bytes that are read field by field, as they say, whether that may be or not. Its first fault stays, and what is read behind that is noughts.
type reading struct {
	all, rest []byte
	fault     api.Fault
}

func begin(b []byte) *reading { return &reading{all: b, rest: b} }

func (r *reading) demand(holds bool, e api.Errno, at int) *reading {
	if !holds && r.fault.Err == api.OK {
		r.fault = api.Fault{Err: e, At: at}
	}
	return r
}

// take tells the next bytes, or none behind a fault.
func (r *reading) take(size int) []byte {
	r.demand(size <= len(r.rest), api.ErrBytes, len(r.all))
	if r.fault.Err != api.OK {
		return nil
	}
	b := r.rest[:size]
	r.rest = r.rest[size:]
	return b
}

func (r *reading) number(n *int, size int) *reading {
	for _, x := range r.take(size) {
		*n = *n<<8 | int(x)
	}
	return r
}

func (r *reading) one(n *int) *reading  { return r.number(n, 1) }
func (r *reading) four(n *int) *reading { return r.number(n, 4) }

func (r *reading) text(s *string) *reading {
	var n int
	r.one(&n)
	*s = string(r.take(n))
	return r
}

// root leaves a hole where no pointer's bytes stand. A hole's are others: told finds that.
func (r *reading) root(p *api.Pointer) *reading {
	*p, _ = pointer.Read(r.take(rootBytes))
	return r
}

func (r *reading) records(l *[]api.Record) *reading {
	var n int
	r.one(&n)
	for range n {
		var x api.Record
		r.record(&x)
		*l = append(*l, x)
	}
	return r
}

func (r *reading) record(x *api.Record) *reading {
	return r.four(&x.ID).text(&x.Name).one(&x.Kind).one(&x.Size).root(&x.Root).
		four(&x.Made).four(&x.Of).four(&x.Origin).one(&x.Quota).one(&x.Reserve)
}

func (r *reading) cursor(c *api.Cursor) *reading {
	return r.one(&c.Kind).one(&c.Dev).four(&c.At).four(&c.Txg)
}

func (r *reading) lives(l *[]int) *reading {
	var n int
	r.one(&n)
	for range n {
		var life int
		r.four(&life)
		*l = append(*l, life)
	}
	return r
}

func (r *reading) end() *reading {
	return r.demand(len(r.rest) == 0, api.ErrBytes, len(r.all)-len(r.rest))
}

// told demands that the table may be, and that its bytes are those that it was read from.
func (r *reading) told(t *api.Table) *reading {
	b, e := Bytes(*t)
	return r.demand(e == api.OK && bytes.Equal(b, r.all), api.ErrArg, 0)
}
