package alloc

import "caulker/api"

// bits are the sectors of a device, one bit for each.
type bits [api.MaxSectors / word]uint64

// word is how many bits a word has.
const word = 64

func (b *bits) has(at int) bool { return b[at/word]>>(at%word)&1 == 1 }
func (b *bits) put(at int)      { b[at/word] |= 1 << (at % word) }
func (b *bits) end(at int)      { b[at/word] &^= 1 << (at % word) }
