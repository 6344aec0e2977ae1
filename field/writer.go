package field

import (
	"slices"

	"caulker/api"
)

// Writer writes bytes. New makes it.
type Writer struct {
	self *Writer // itself: so that one that New did not make, a copy too, is told apart
	b    []byte
	err  api.Errno
}

// New begins to write.
func New() *Writer {
	w := &Writer{}
	w.self = w
	return w
}

func (w *Writer) made() bool { return w != nil && w.self == w }

// unlessFailed does put only as long as there is no error, so that the first one stays.
func (w *Writer) unlessFailed(put func() api.Errno) {
	if w.made() && w.err == api.OK {
		w.err = put()
	}
}

// Num writes a number of a size, the highest byte first.
func (w *Writer) Num(n, size int) {
	w.unlessFailed(func() api.Errno {
		if !isSize(size) {
			return api.ErrArg
		}
		if n < 0 || n>>(8*size) > 0 {
			return api.ErrRange
		}
		return w.add(numberAsBytes(n, size))
	})
}

// Text writes a text of a most: its length, its bytes, and noughts up to most.
func (w *Writer) Text(s string, most int) {
	w.unlessFailed(func() api.Errno {
		if !isMost(most) {
			return api.ErrArg
		}
		if len(s) > most {
			return api.ErrLong
		}
		return w.add(textAsBytes(s, most))
	})
}

// Raw writes bytes as they are.
func (w *Writer) Raw(b []byte) {
	w.unlessFailed(func() api.Errno { return w.add(b) })
}

// Pad writes noughts, up to so many bytes in all.
func (w *Writer) Pad(to int) {
	w.unlessFailed(func() api.Errno {
		if to > maxBytes || to < len(w.b) {
			return api.ErrArg
		}
		return w.add(make([]byte, to-len(w.b)))
	})
}

// Out tells all that was written, or the first error.
func (w *Writer) Out() ([]byte, api.Errno) {
	if !w.made() {
		return nil, api.ErrNil
	}
	if w.err != api.OK {
		return nil, w.err
	}
	return slices.Clone(w.b), api.OK
}

func (w *Writer) add(b []byte) api.Errno {
	if len(b) > maxBytes-len(w.b) {
		return api.ErrLong
	}
	w.b = append(w.b, b...)
	return api.OK
}

func numberAsBytes(n, size int) []byte {
	b := make([]byte, size)
	for i := range b {
		b[size-1-i] = byte(n >> (8 * i))
	}
	return b
}

func textAsBytes(s string, most int) []byte {
	b := make([]byte, 1+most)
	b[0] = byte(len(s))
	copy(b[1:], s)
	return b
}
