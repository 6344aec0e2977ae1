package record_test

import (
	"bytes"
	"encoding/binary"
	"fmt"
	"slices"
	"testing"

	"caulker/api"
	"caulker/record"
)

func TestP12_2_Examples(t *testing.T) {
	b := encoded(none())
	refused(t, "none", nil, api.ErrBytes, 0)
	refused(t, "none, of a list", []byte{}, api.ErrBytes, 0)
	refused(t, "a byte more", append(slices.Clone(b), 0), api.ErrBytes, 24)
	b[0] = 255
	refused(t, "its first byte 255", b, api.ErrArg, 0)
	answers(t, "u", encoded(one()), one(), api.Fault{})
}

// several are tables whose bytes are cut, lengthened, and changed.
func several() []api.Table {
	d := dice(3)
	return []api.Table{none(), one(), full(), least(), most(), d.table(), d.table(), d.table()}
}

func TestP12_2_CutShortAtEachPlace(t *testing.T) {
	for _, x := range several() {
		b := encoded(x)
		for n := range b {
			refused(t, fmt.Sprint("the first ", n), b[:n], api.ErrBytes, n)
			refused(t, fmt.Sprint("the first ", n, ", without room"), slices.Clone(b[:n]), api.ErrBytes, n)
		}
		answers(t, "all", b, x, api.Fault{})
	}
}

func TestP12_2_MoreBehind(t *testing.T) {
	for _, x := range several() {
		b := encoded(x)
		for _, more := range [][]byte{{0}, {1}, {255}, {0, 0}, make([]byte, 4), make([]byte, 69), make([]byte, 1000), make([]byte, 1<<20), b} {
			refused(t, fmt.Sprint(len(more), " more"), slices.Concat(b, more), api.ErrBytes, len(b))
			if len(more) < 1000 {
				reads(t, fmt.Sprint(len(more), " ahead"), slices.Concat(more, b))
			}
		}
	}
}

func TestP12_2_EachByteAnotherOne(t *testing.T) {
	pair := changed(func(t *api.Table) { t.Records = t.Records[:lastA] })
	some := []byte{0, 1, 2, 3, 4, 5, 7, 8, 9, 64, 65, 123, 128, 255}
	every := make([]byte, 256)
	for i := range every {
		every[i] = byte(i)
	}
	for _, x := range []struct {
		table  api.Table
		others []byte
	}{{none(), every}, {one(), every}, {pair, every}, {full(), some}, {most(), some}} {
		was := encoded(x.table)
		for i, y := range was {
			for _, z := range append([]byte{y - 1, y + 1, y ^ 128}, x.others...) {
				b := slices.Clone(was)
				b[i] = z
				reads(t, fmt.Sprint("byte ", i, " is ", z), b)
			}
		}
	}
}

func TestP12_2_EachNumberAnotherOne(t *testing.T) {
	for _, x := range []api.Table{none(), one(), full(), least(), most()} {
		was := encoded(x)
		for i := range len(was) - 3 {
			n := binary.BigEndian.Uint32(was[i:])
			for _, y := range []uint32{0, 1, 2, n - 1, n + 1, 1<<31 - 1, 1 << 31, 1<<31 + 1, 1<<32 - 1} {
				b := slices.Clone(was)
				binary.BigEndian.PutUint32(b[i:], y)
				reads(t, fmt.Sprint("the number at ", i, " is ", y), b)
			}
		}
	}
}

// filled is bytes that say that they have so many records, with names of so many bytes, and so many Lives.
func filled(records, name, lives int) []byte {
	b := []byte{0, 0, 0, 9, byte(records)}
	for i := range records {
		b = append(b, 0, 0, 0, byte(i+1), byte(name))
		b = append(b, bytes.Repeat([]byte{'a' + byte(i%26)}, name)...)
		b = append(b, 1, 1)
		b = append(b, make([]byte, 47)...)
		b = append(b, 0, 0, 0, 1)
		b = append(b, make([]byte, 10)...)
	}
	b = append(b, make([]byte, 10)...)
	b = append(b, byte(lives))
	return append(b, make([]byte, 4*lives)...)
}

func TestP12_2_HowManyAreSaidToBeThere(t *testing.T) {
	for _, records := range []int{0, 1, 2, 8, 9, 15, 16, 17, 18, 127, 128, 254, 255} {
		for _, name := range []int{0, 1, 2, 20, 21, 41, 42, 127, 128, 255} {
			for _, lives := range []int{0, 1, 2, 3, 8, 9, 10, 127, 128, 255} {
				b := filled(records, name, lives)
				what := fmt.Sprint(records, " records of ", name, " with ", lives)
				may := records <= 8 && (records == 0 || name >= 1 && name <= 20) && lives >= 2 && lives <= 8
				if _, f := decoded(b); may != (f == api.Fault{}) {
					t.Fatal(what, ": the test itself tells otherwise")
				}
				reads(t, what, b)
				if !may {
					refused(t, what, b, api.ErrArg, 0)
				}
				refused(t, what+" less one byte", b[:len(b)-1], api.ErrBytes, len(b)-1)
				refused(t, what+" and one byte", append(b, 0), api.ErrBytes, len(b))
			}
		}
	}
}

func TestP12_2_FewerBytesThanAreSaidToBeThere(t *testing.T) {
	for _, b := range [][]byte{filled(255, 255, 255), filled(2, 20, 255), filled(17, 0, 3), filled(0, 0, 9)} {
		for n := 0; n < len(b); n += 1 + n/300 {
			refused(t, fmt.Sprint("the first ", n), b[:n], api.ErrBytes, n)
		}
	}
	for n := range 200 {
		refused(t, fmt.Sprint(n, " ones"), bytes.Repeat([]byte{255}, n), api.ErrBytes, n)
		reads(t, fmt.Sprint(n, " noughts"), make([]byte, n))
		reads(t, fmt.Sprint(n, " twos"), bytes.Repeat([]byte{2}, n))
	}
	refused(t, "16 noughts", make([]byte, 16), api.ErrArg, 0)
	refused(t, "17 noughts", make([]byte, 17), api.ErrBytes, 16)
}

func TestP12_2_AWrongFieldAheadOfMissingOrMoreBytes(t *testing.T) {
	x := changed(func(t *api.Table) {
		t.Next, t.Records[0].Kind, t.Records[1].Size, t.Records[2].Root.Level, t.Records[3].Name = 1<<32-1, 9, 99, 9, "\xff"
	})
	b := encoded(x)
	b[14] = 9 // of the first root there are so many addresses
	refused(t, "all of it", b, api.ErrArg, 0)
	for n := range b {
		refused(t, fmt.Sprint("the first ", n), b[:n], api.ErrBytes, n)
	}
	refused(t, "one more", append(b, 7), api.ErrBytes, len(b))
}

func TestP12_2_WhatMayNotBe(t *testing.T) {
	kept := 0
	for _, f := range fields() {
		for _, n := range []int{0, 1, 2, 3, 4, 63, 64, 65, 255, f.at[0] - 1, f.at[len(f.at)-1] + 1, 1 << 31, 1<<31 + 1, 1<<32 - 1} {
			x := full()
			f.set(&x, n)
			if y, g := decoded(encoded(x)); n < 0 || g == (api.Fault{}) && !same(y, x) {
				continue // so much has no room: what is left of it may be
			}
			if able(x) {
				answers(t, f.what, encoded(x), x, api.Fault{})
			} else {
				refused(t, f.what, encoded(x), api.ErrArg, 0)
				kept++
			}
		}
	}
	if kept < 300 {
		t.Errorf("just %d were asked", kept)
	}
}

func TestP12_2_RootsThatAreNoPointers(t *testing.T) {
	for _, x := range []api.Table{one(), full(), most()} {
		b := encoded(x)
		root := 5 + 5 + len(x.Records[0].Name) + 2
		own := slices.Clone(b[root : root+47])
		full := slices.Clone(encoded(full())[17:64])
		for _, y := range [][]byte{own, make([]byte, 47), full} {
			for i := range y {
				for _, z := range []byte{1, 4, 8, 128, 255} {
					copy(b[root:], y)
					b[root+i] = z
					reads(t, fmt.Sprint("byte ", i, " of a root"), b)
				}
			}
		}
	}
	b := encoded(one()) // a hole but for what stands where it has no addresses
	b[5+5+1+2+5] = 9
	refused(t, "no hole", b, api.ErrArg, 0)
}

func TestP12_2_Anything(t *testing.T) {
	d := dice(4)
	for range 5000 {
		b := d.bytes(d.below(300))
		reads(t, "anything", b)
		b = encoded(d.table())
		copy(b[d.below(len(b)):], d.bytes(1+d.below(60)))
		reads(t, "some bytes laid over", b)
		i := d.below(len(b))
		reads(t, "some bytes gone", slices.Delete(b, i, min(len(b), i+d.below(9))))
	}
}

func TestP12_2_LeavesBytesAsTheyWere(t *testing.T) {
	for _, x := range several() {
		room := append(encoded(x), bytes.Repeat([]byte{170}, 100)...)
		for _, n := range []int{0, 5, 24, len(room) - 101, len(room) - 100, len(room) - 99, len(room)} {
			was := slices.Clone(room)
			record.Read(room[:n])
			if !bytes.Equal(room, was) {
				t.Fatalf("%d bytes, or the room behind them, are others", n)
			}
			for i := n; i < len(room); i++ { // spare room does not count
				room[i]++
			}
			reads(t, fmt.Sprint(n, " bytes"), room[:n])
			copy(room, was)
		}
	}
}

// wiped is x with all of its lists, and the room behind them, of noughts.
func wiped(x api.Table) {
	for _, r := range x.Records[:cap(x.Records)] {
		clear(r.Root.Addrs[:cap(r.Root.Addrs)])
	}
	clear(x.Records[:cap(x.Records)])
	clear(x.Lives[:cap(x.Lives)])
}

func TestP12_2_SharesNoMemory(t *testing.T) {
	for _, base := range several() {
		b := encoded(base)
		x, _ := record.Read(b)
		y, _ := record.Read(b)
		clear(b)
		if !same(x, base) {
			t.Fatal("it hangs on what was handed in: ", text(x))
		}
		wiped(x)
		if !same(y, base) {
			t.Fatal("two share memory: ", text(y))
		}
		for i := range y.Records { // roots alike, and their lists not shared
			l := y.Records[i].Root.Addrs
			clear(l[:cap(l)])
			z := copied(base)
			for j := range i + 1 {
				clear(z.Records[j].Root.Addrs)
			}
			if !same(y, z) {
				t.Fatal("two lists of one answer share memory: ", text(y))
			}
		}
		y.Lives = append(y.Lives, 1, 2, 3)
		y.Records = append(y.Records, api.Record{})
		reads(t, "once more", encoded(base))
	}
}

func TestP12_2_TheSameAnswersAgain(t *testing.T) {
	for range 3 {
		answers(t, "full", encoded(full()), full(), api.Fault{})
		refused(t, "a byte less", encoded(full())[:99], api.ErrBytes, 99)
		refused(t, "noughts", make([]byte, 16), api.ErrArg, 0)
		answers(t, "none", encoded(none()), none(), api.Fault{})
	}
}
