package record

import (
	"caulker/api"
	"caulker/pointer"
)

// Bytes tells a table's bytes.
func Bytes(t api.Table) ([]byte, api.Errno) {
	if e := Check(t); e != api.OK {
		return nil, e
	}
	return writing{}.four(t.Next).records(t.Records).cursor(t.Cursor).lives(t.Lives), api.OK
}

// writing is bytes that grow field by field, of a table that may be: each number has the room that it needs.
type writing []byte

func (w writing) one(n int) writing { return append(w, byte(n)) }

func (w writing) four(n int) writing {
	return w.one(n >> 24).one(n >> 16).one(n >> 8).one(n)
}

func (w writing) text(s string) writing { return append(w.one(len(s)), s...) }

// root is not refused: one that may be has bytes.
func (w writing) root(p api.Pointer) writing {
	b, _ := pointer.Bytes(p)
	return append(w, b...)
}

func (w writing) records(l []api.Record) writing {
	w = w.one(len(l))
	for _, r := range l {
		w = w.record(r)
	}
	return w
}

func (w writing) record(r api.Record) writing {
	return w.four(r.ID).text(r.Name).one(r.Kind).one(r.Size).root(r.Root).
		four(r.Made).four(r.Of).four(r.Origin).one(r.Quota).one(r.Reserve)
}

func (w writing) cursor(c api.Cursor) writing {
	return w.one(c.Kind).one(c.Dev).four(c.At).four(c.Txg)
}

func (w writing) lives(l []int) writing {
	w = w.one(len(l))
	for _, life := range l {
		w = w.four(life)
	}
	return w
}
