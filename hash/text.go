package hash

import (
	"bytes"
	"strings"

	"caulker/api"
)

const (
	letters     = "0123456789abcdef" // each stands for half a byte: its place here
	textLetters = 2 * len(api.ID{})
)

// Less tells whether an ID is the lesser one, as of their bytes in order.
func Less(a, b api.ID) bool { return bytes.Compare(a[:], b[:]) < 0 }

// Text tells an ID's text.
func Text(id api.ID) string {
	text := make([]byte, 0, textLetters)
	for _, x := range id {
		text = append(text, letters[x>>4], letters[x&15])
	}
	return string(text)
}

// Parse tells the ID of a text. A letter is a byte, since a fault is told at a byte.
func Parse(s string) (api.ID, api.Fault) {
	if len(s) != textLetters {
		return api.ID{}, api.Fault{Err: api.ErrBytes, At: min(len(s), textLetters)}
	}
	var id api.ID
	for i := range len(s) {
		half := strings.IndexByte(letters, s[i])
		if half < 0 {
			return api.ID{}, api.Fault{Err: api.ErrArg, At: i}
		}
		id[i/2] = id[i/2]<<4 | byte(half)
	}
	return id, api.Fault{}
}
