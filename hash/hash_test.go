package hash_test

import (
	"bytes"
	"crypto/sha256"
	"encoding"
	"encoding/binary"
	"slices"
	"strings"
	"testing"

	"caulker/api"
	"caulker/hash"
)

// dice is a row of numbers that looks like chance and is the same in each run.
type dice uint64

func (d *dice) below(n int) int {
	*d = *d*6364136223846793005 + 1442695040888963407
	return int(uint64(*d) >> 33 % uint64(n))
}

func (d *dice) bytes(n int) []byte {
	b := make([]byte, n)
	for i := range b {
		b[i] = byte(d.below(256))
	}
	return b
}

func (d *dice) state() [8]uint32 {
	var s [8]uint32
	for i := range s {
		s[i] = binary.BigEndian.Uint32(d.bytes(4))
	}
	return s
}

// begun is what the library's digest has ahead of what it keeps of a state.
const begun = "sha\x03"

// librarysTurn is the same turn as the library does it, which lets its state be set and asked.
func librarysTurn(t *testing.T, s [8]uint32, piece []byte) [8]uint32 {
	t.Helper()
	kept := []byte(begun)
	for _, x := range s {
		kept = binary.BigEndian.AppendUint32(kept, x)
	}
	kept = append(kept, make([]byte, 64+8)...)
	h := sha256.New()
	if e := h.(encoding.BinaryUnmarshaler).UnmarshalBinary(kept); e != nil {
		t.Fatal(e)
	}
	h.Write(piece)
	kept, e := h.(encoding.BinaryMarshaler).MarshalBinary()
	if e != nil {
		t.Fatal(e)
	}
	for i := range s {
		s[i] = binary.BigEndian.Uint32(kept[len(begun)+4*i:])
	}
	return s
}

// turned is a state, turned by pieces one behind the other.
func turned(t *testing.T, s [8]uint32, pieces [][]byte) [8]uint32 {
	t.Helper()
	for _, p := range pieces {
		next, e := hash.Turn(s, p)
		if e != api.OK {
			t.Fatal(e)
		}
		s = next
	}
	return s
}

// asID is a state's words as bytes.
func asID(s [8]uint32) api.ID {
	var id api.ID
	for i, x := range s {
		binary.BigEndian.PutUint32(id[4*i:], x)
	}
	return id
}

func TestP2_1_FillHowMany(t *testing.T) {
	for _, x := range []struct{ bytes, pieces int }{
		{0, 1}, {1, 1}, {54, 1}, {55, 1}, {56, 2}, {57, 2}, {63, 2}, {64, 2}, {65, 2}, {119, 2}, {120, 3}, {128, 3}, {183, 3}, {184, 4}, {224, 4}, {256, 5},
	} {
		if l := hash.Fill(make([]byte, x.bytes)); len(l) != x.pieces {
			t.Errorf("%d bytes: %d pieces, want %d", x.bytes, len(l), x.pieces)
		}
	}
}

func TestP2_1_FillExamples(t *testing.T) {
	for _, b := range [][]byte{nil, {}} {
		if l := hash.Fill(b); len(l) != 1 || l[0][0] != 128 || l[0][1] != 0 || l[0][63] != 0 {
			t.Error(l)
		}
	}
	if l := hash.Fill([]byte("abc")); len(l) != 1 || string(l[0][:5]) != "abc\x80\x00" || l[0][62] != 0 || l[0][63] != 24 {
		t.Error(l)
	}
}

func TestP2_1_FillIsAllOfTheBytesInOrder(t *testing.T) {
	d := dice(1)
	lengths := []int{8191, 8192, 1<<21 - 1, 1 << 21} // where the count of bits takes one byte more
	for n := range 330 {
		lengths = append(lengths, n)
	}
	for _, n := range lengths {
		b := d.bytes(n)
		want := append(slices.Clone(b), 128)
		for len(want)%64 != 56 {
			want = append(want, 0)
		}
		want = binary.BigEndian.AppendUint64(want, uint64(n)*8)
		l := hash.Fill(b)
		if got := bytes.Join(l, nil); !bytes.Equal(got, want) {
			t.Fatalf("%d bytes are not filled up as they should", n)
		}
		for i, p := range l {
			if len(p) != 64 {
				t.Fatalf("%d bytes: piece %d has %d", n, i, len(p))
			}
		}
	}
}

func TestP2_1_FillIsNewMemory(t *testing.T) {
	d := dice(2)
	room := d.bytes(200)
	was := slices.Clone(room)
	b := room[:130]
	first, second := hash.Fill(b), hash.Fill(b)
	if !bytes.Equal(room, was) {
		t.Fatal("the argument, or its spare room, was changed")
	}
	want := bytes.Join(second, nil)
	b[0], b[70] = b[0]+1, b[70]+1
	if !bytes.Equal(bytes.Join(first, nil), want) {
		t.Error("a changed argument changes the pieces")
	}
	for i, p := range first {
		others := bytes.Join(slices.Delete(slices.Clone(first), i, i+1), nil)
		for k := range p {
			p[k]++
		}
		_ = append(p, bytes.Repeat([]byte{77}, 64)...)
		if !bytes.Equal(bytes.Join(slices.Delete(slices.Clone(first), i, i+1), nil), others) {
			t.Errorf("the piece %d shares memory with another one", i)
		}
	}
	if !bytes.Equal(bytes.Join(second, nil), want) {
		t.Error("two answers share memory")
	}
	b[0], b[70] = b[0]-1, b[70]-1
	if !bytes.Equal(room, was) {
		t.Error("the pieces share memory with the argument")
	}
}

func TestP2_1_Start(t *testing.T) {
	want := [8]uint32{0x6a09e667, 0xbb67ae85, 0x3c6ef372, 0xa54ff53a, 0x510e527f, 0x9b05688c, 0x1f83d9ab, 0x5be0cd19}
	s := hash.Start()
	if s != want {
		t.Errorf("%x", s)
	}
	s[0]++
	if hash.Start() != want {
		t.Error("a changed answer changes the next one")
	}
}

func TestP2_1_TurnErrors(t *testing.T) {
	room := make([]byte, 64)
	for _, piece := range [][]byte{nil, {}, {1}, make([]byte, 63), room[:63], make([]byte, 65), make([]byte, 128)} {
		if s, e := hash.Turn(hash.Start(), piece); e != api.ErrArg || s != [8]uint32{} {
			t.Errorf("a piece of %d bytes: %x, %v", len(piece), s, e)
		}
	}
}

func TestP2_1_TurnFromAnyState(t *testing.T) {
	d := dice(3)
	for range 2000 {
		s, piece := d.state(), d.bytes(64)
		if got, want := turned(t, s, [][]byte{piece}), librarysTurn(t, s, piece); got != want {
			t.Fatalf("%x turned by %x: %x, want %x", s, piece, got, want)
		}
	}
	for _, s := range [][8]uint32{{}, {1<<32 - 1, 1<<32 - 1, 1<<32 - 1, 1<<32 - 1, 1<<32 - 1, 1<<32 - 1, 1<<32 - 1, 1<<32 - 1}} {
		for _, x := range []byte{0, 255} {
			piece := bytes.Repeat([]byte{x}, 64)
			if got, want := turned(t, s, [][]byte{piece}), librarysTurn(t, s, piece); got != want {
				t.Errorf("%x turned by %x: %x, want %x", s, piece, got, want)
			}
		}
	}
}

func TestP2_1_TurnReadsThePieceAlone(t *testing.T) {
	d := dice(4)
	s, room := d.state(), d.bytes(100)
	was := slices.Clone(room)
	want := turned(t, s, [][]byte{slices.Clone(room[:64])})
	if got := turned(t, s, [][]byte{room[:64]}); got != want || !bytes.Equal(room, was) {
		t.Error("the spare room of a piece counts, or was changed")
	}
	for i := 64; i < len(room); i++ {
		room[i]++
	}
	if got := turned(t, s, [][]byte{room[:64]}); got != want {
		t.Error("the spare room of a piece counts")
	}
}

func TestP2_2_SumExamples(t *testing.T) {
	for _, x := range []struct {
		text string
		want []byte // its first four bytes, its last four
	}{
		{"", []byte{227, 176, 196, 66, 120, 82, 184, 85}},
		{"abc", []byte{186, 120, 22, 191, 242, 0, 21, 173}},
		{"abcdbcdecdefdefgefghfghighijhijkijkljklmklmnlmnomnopnopq", []byte{36, 141, 106, 97, 25, 219, 6, 193}},
		{strings.Repeat("a", 1000000), []byte{0xcd, 0xc7, 0x6e, 0x5c, 0xc7, 0x11, 0x2c, 0xd0}},
	} {
		id := hash.Sum([]byte(x.text))
		if got := slices.Concat(id[:4], id[28:]); !bytes.Equal(got, x.want) {
			t.Errorf("%.60s: %v, want %v", x.text, got, x.want)
		}
	}
	if hash.Sum(nil) != hash.Sum([]byte{}) {
		t.Error("nil and empty are not the same")
	}
}

func TestP2_2_SumIsTheDigest(t *testing.T) {
	d := dice(5)
	for n := range 400 {
		b := d.bytes(n)
		if got := hash.Sum(b); got != sha256.Sum256(b) {
			t.Errorf("%d bytes: %x", n, got)
		}
	}
	for _, x := range []byte{0, 1, 128, 255} {
		for _, n := range []int{1, 55, 56, 63, 64, 224, 256, 100000} {
			b := bytes.Repeat([]byte{x}, n)
			if got := hash.Sum(b); got != sha256.Sum256(b) {
				t.Errorf("%d bytes %d: %x", n, x, got)
			}
		}
	}
}

func TestP2_2_SumReadsTheBytesAlone(t *testing.T) {
	d := dice(6)
	for _, n := range []int{0, 3, 55, 60, 64, 256} {
		room := d.bytes(n + 100)
		was := slices.Clone(room)
		if hash.Sum(room[:n]) != hash.Sum(was[:n:n]) || !bytes.Equal(room, was) {
			t.Errorf("%d bytes: the spare room counts, or was changed", n)
		}
	}
}

func TestP2_4_HoweverPiecesAreTurnedIn(t *testing.T) {
	d := dice(7)
	for range 200 {
		b := d.bytes(d.below(700))
		pieces, sum := hash.Fill(b), hash.Sum(b)
		cut := d.below(len(pieces) + 1)
		kept := turned(t, hash.Start(), pieces[:cut])
		turned(t, d.state(), pieces) // another digest in between
		hash.Sum(d.bytes(100))
		if asID(turned(t, kept, pieces[cut:])) != sum {
			t.Errorf("%d bytes, cut at the piece %d: not their digest", len(b), cut)
		}
		if asID(turned(t, kept, pieces[cut:])) != sum {
			t.Errorf("%d bytes, cut at the piece %d: not their digest when turned in again", len(b), cut)
		}
	}
}
