// Package field is layer 1: numbers and texts as bytes of fixed room: see shared/doc/01-field.md.
package field

const (
	maxSize  = 7     // bytes of a number
	maxMost  = 255   // bytes of a text: its length stands in one byte
	maxBytes = 65536 // bytes that a writer holds in all
)

func isSize(size int) bool { return size >= 1 && size <= maxSize }

func isMost(most int) bool { return most >= 0 && most <= maxMost }
