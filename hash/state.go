package hash

import (
	"math/bits"

	"caulker/api"
)

const pieceWords = 64 // words that a state is turned by, of each piece

// addends are K0 to K63: one for each word of a piece.
var addends = [pieceWords]uint32{
	0x428a2f98, 0x71374491, 0xb5c0fbcf, 0xe9b5dba5, 0x3956c25b, 0x59f111f1, 0x923f82a4, 0xab1c5ed5,
	0xd807aa98, 0x12835b01, 0x243185be, 0x550c7dc3, 0x72be5d74, 0x80deb1fe, 0x9bdc06a7, 0xc19bf174,
	0xe49b69c1, 0xefbe4786, 0x0fc19dc6, 0x240ca1cc, 0x2de92c6f, 0x4a7484aa, 0x5cb0a9dc, 0x76f988da,
	0x983e5152, 0xa831c66d, 0xb00327c8, 0xbf597fc7, 0xc6e00bf3, 0xd5a79147, 0x06ca6351, 0x14292967,
	0x27b70a85, 0x2e1b2138, 0x4d2c6dfc, 0x53380d13, 0x650a7354, 0x766a0abb, 0x81c2c92e, 0x92722c85,
	0xa2bfe8a1, 0xa81a664b, 0xc24b8b70, 0xc76c51a3, 0xd192e819, 0xd6990624, 0xf40e3585, 0x106aa070,
	0x19a4c116, 0x1e376c08, 0x2748774c, 0x34b0bcb5, 0x391c0cb3, 0x4ed8aa4a, 0x5b9cca4f, 0x682e6ff3,
	0x748f82ee, 0x78a5636f, 0x84c87814, 0x8cc70208, 0x90befffa, 0xa4506ceb, 0xbef9a3f7, 0xc67178f2,
}

// state is what a digest has come to: a to h, in order.
type state [8]uint32

// turned tells the state, turned by a piece.
func (s state) turned(piece [pieceBytes]byte) state {
	a, b, c, d, e, f, g, h := s[0], s[1], s[2], s[3], s[4], s[5], s[6], s[7]
	for i, word := range wordsOf(piece) {
		t := h + (right(e, 6) ^ right(e, 11) ^ right(e, 25)) + (e&f ^ ^e&g) + addends[i] + word
		u := (right(a, 2) ^ right(a, 13) ^ right(a, 22)) + (a&b ^ a&c ^ b&c)
		h, g, f, e, d, c, b, a = g, f, e, d+t, c, b, a, t+u
	}
	to := state{a, b, c, d, e, f, g, h}
	for i := range to {
		to[i] += s[i]
	}
	return to
}

// digest tells the state's words as bytes, of each the highest first.
func (s state) digest() api.ID {
	var id api.ID
	for i := range id {
		id[i] = byte(s[i/4] >> (24 - 8*(i%4)))
	}
	return id
}

// wordsOf tells W0 to W63 of a piece. No word hangs on one more than sixteen ahead of it, so the window has all that the next one is made of.
func wordsOf(piece [pieceBytes]byte) [pieceWords]uint32 {
	var words [pieceWords]uint32
	var window [16]uint32
	for i := range words {
		at := i % len(window)
		if i < len(window) {
			window[at] = asWord(piece[4*i : 4*i+4])
		} else { // what stands there still is W(i - 16)
			x, y := window[(i-15)%len(window)], window[(i-2)%len(window)]
			window[at] += (right(x, 7) ^ right(x, 18) ^ x>>3) + window[(i-7)%len(window)] + (right(y, 17) ^ right(y, 19) ^ y>>10)
		}
		words[i] = window[at]
	}
	return words
}

// asWord tells four bytes as a word, the highest first.
func asWord(b []byte) uint32 {
	var word uint32
	for _, x := range b {
		word = word<<8 | uint32(x)
	}
	return word
}

func right(x uint32, n int) uint32 { return bits.RotateLeft32(x, -n) }
