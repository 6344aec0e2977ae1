package field_test

import (
	"bytes"
	"math"
	"strings"
	"testing"

	"caulker/api"
	"caulker/field"
)

// wrote holds what a writer tells against what it should.
func wrote(t *testing.T, what string, w *field.Writer, want []byte, wantErr api.Errno) {
	t.Helper()
	b, e := w.Out()
	if e != wantErr || !bytes.Equal(b, want) {
		t.Errorf("%s: wrote %v, %v; want %v, %v", what, b, e, want, wantErr)
	}
}

// filled is a writer of n bytes, all 7.
func filled(n int) *field.Writer {
	w := field.New()
	w.Raw(bytes.Repeat([]byte{7}, n))
	return w
}

func TestP1_1_NewIsAWriterOfNothing(t *testing.T) {
	wrote(t, "New", field.New(), nil, api.OK)
}

func TestP1_1_Example(t *testing.T) {
	w := field.New()
	w.Num(258, 2)
	w.Text("ab", 3)
	w.Pad(8)
	wrote(t, "example", w, []byte{1, 2, 2, 97, 98, 0, 0, 0}, api.OK)
}

func TestP1_1_NumWrites(t *testing.T) {
	for _, x := range []struct {
		n, size int
		want    []byte
	}{
		{0, 1, []byte{0}},
		{255, 1, []byte{255}},
		{256, 2, []byte{1, 0}},
		{65535, 2, []byte{255, 255}},
		{0x010203, 3, []byte{1, 2, 3}},
		{0x01020304, 4, []byte{1, 2, 3, 4}},
		{0x0102030405, 5, []byte{1, 2, 3, 4, 5}},
		{0x010203040506, 6, []byte{1, 2, 3, 4, 5, 6}},
		{0x01020304050607, 7, []byte{1, 2, 3, 4, 5, 6, 7}},
		{1, 7, []byte{0, 0, 0, 0, 0, 0, 1}},
		{1<<56 - 1, 7, []byte{255, 255, 255, 255, 255, 255, 255}},
	} {
		w := field.New()
		w.Num(x.n, x.size)
		wrote(t, "Num", w, x.want, api.OK)
	}
}

func TestP1_1_NumEdgesOfEachSize(t *testing.T) {
	for size := 1; size <= 7; size++ {
		over := 1 << (8 * size)
		for _, n := range []int{0, 1, over - 1} {
			w := field.New()
			w.Num(n, size)
			if b, e := w.Out(); e != api.OK || len(b) != size {
				t.Errorf("Num(%d, %d): %v, %v", n, size, b, e)
			}
		}
		for _, n := range []int{-1, over, math.MinInt, math.MaxInt} {
			w := field.New()
			w.Num(n, size)
			wrote(t, "Num out of range", w, nil, api.ErrRange)
		}
	}
}

func TestP1_1_NumOfNoSize(t *testing.T) {
	for _, size := range []int{0, 8, -1, 9, 64, math.MinInt, math.MaxInt} {
		for _, n := range []int{0, 1, -1, math.MaxInt} {
			w := field.New()
			w.Num(n, size)
			wrote(t, "Num of no size", w, nil, api.ErrArg)
		}
	}
}

func TestP1_1_TextWrites(t *testing.T) {
	long := strings.Repeat("x", 255)
	for _, x := range []struct {
		s    string
		most int
		want []byte
	}{
		{"", 0, []byte{0}},
		{"", 3, []byte{0, 0, 0, 0}},
		{"ab", 2, []byte{2, 97, 98}},
		{"ab", 4, []byte{2, 97, 98, 0, 0}},
		{"\x00\xff", 3, []byte{2, 0, 255, 0}},
		{"é", 2, []byte{2, 0xc3, 0xa9}},
		{long, 255, append([]byte{255}, long...)},
		{"", 255, make([]byte, 256)},
	} {
		w := field.New()
		w.Text(x.s, x.most)
		wrote(t, "Text", w, x.want, api.OK)
	}
}

func TestP1_1_TextErrors(t *testing.T) {
	for _, x := range []struct {
		s    string
		most int
		want api.Errno
	}{
		{"", -1, api.ErrArg},
		{"", 256, api.ErrArg},
		{"", math.MinInt, api.ErrArg},
		{"", math.MaxInt, api.ErrArg},
		{"a", -1, api.ErrArg},
		{strings.Repeat("x", 257), 256, api.ErrArg},
		{"a", 0, api.ErrLong},
		{"ab", 1, api.ErrLong},
		{"é", 1, api.ErrLong},
		{strings.Repeat("x", 256), 255, api.ErrLong},
	} {
		w := field.New()
		w.Text(x.s, x.most)
		wrote(t, "Text", w, nil, x.want)
	}
}

func TestP1_1_RawStandsBehind(t *testing.T) {
	w := field.New()
	w.Raw(nil)
	wrote(t, "Raw of nothing", w, nil, api.OK)
	w.Raw([]byte{0, 255})
	w.Raw([]byte{})
	w.Raw([]byte{1})
	wrote(t, "Raw", w, []byte{0, 255, 1}, api.OK)
}

func TestP1_1_PadCountsAllBytes(t *testing.T) {
	w := field.New()
	w.Pad(0)
	wrote(t, "Pad(0)", w, nil, api.OK)
	w.Raw([]byte{9})
	w.Pad(1)
	wrote(t, "Pad to as many as there are", w, []byte{9}, api.OK)
	w.Pad(3)
	w.Raw([]byte{8})
	wrote(t, "Pad(3)", w, []byte{9, 0, 0, 8}, api.OK)
	w.Pad(65536)
	if b, e := w.Out(); e != api.OK || len(b) != 65536 || bytes.IndexFunc(b[4:], func(r rune) bool { return r != 0 }) >= 0 {
		t.Errorf("Pad(65536): %d bytes, %v", len(b), e)
	}
}

func TestP1_1_PadErrors(t *testing.T) {
	for _, x := range []struct{ there, to int }{
		{0, 65537}, {0, -1}, {3, 2}, {3, 0}, {3, -1}, {65536, 65535}, {65536, 65537}, {0, math.MinInt}, {0, math.MaxInt},
	} {
		w := filled(x.there)
		w.Pad(x.to)
		wrote(t, "Pad", w, nil, api.ErrArg)
	}
}

func TestP1_1_RoomInAll(t *testing.T) {
	for _, x := range []struct {
		what  string
		there int
		do    func(w *field.Writer)
	}{
		{"Num of 1", 65535, func(w *field.Writer) { w.Num(5, 1) }},
		{"Num of 7", 65529, func(w *field.Writer) { w.Num(5, 7) }},
		{"Text of 0", 65535, func(w *field.Writer) { w.Text("", 0) }},
		{"Text of 255", 65280, func(w *field.Writer) { w.Text("a", 255) }},
		{"Raw of 1", 65535, func(w *field.Writer) { w.Raw([]byte{5}) }},
		{"Raw of all", 0, func(w *field.Writer) { w.Raw(make([]byte, 65536)) }},
		{"Pad", 0, func(w *field.Writer) { w.Pad(65536) }},
		{"Raw of nothing", 65536, func(w *field.Writer) { w.Raw(nil) }},
	} {
		w := filled(x.there)
		x.do(w)
		if b, e := w.Out(); e != api.OK || len(b) != 65536 {
			t.Errorf("%s: %d bytes, %v", x.what, len(b), e)
		}
		w.Raw([]byte{1})
		wrote(t, x.what+", and one more", w, nil, api.ErrLong)
	}
	for _, x := range []struct {
		there int
		do    func(w *field.Writer)
	}{
		{65536, func(w *field.Writer) { w.Num(5, 1) }},
		{65530, func(w *field.Writer) { w.Num(5, 7) }},
		{65536, func(w *field.Writer) { w.Text("", 0) }},
		{65281, func(w *field.Writer) { w.Text("a", 255) }},
		{0, func(w *field.Writer) { w.Raw(make([]byte, 65537)) }},
	} {
		w := filled(x.there)
		x.do(w)
		wrote(t, "one byte too many", w, nil, api.ErrLong)
	}
}

func TestP1_1_OrderOfErrors(t *testing.T) {
	for i, x := range []struct {
		do   func(w *field.Writer)
		want api.Errno
	}{
		{func(w *field.Writer) { w.Num(-1, 8) }, api.ErrArg},
		{func(w *field.Writer) { w.Num(-1, 1) }, api.ErrRange},
		{func(w *field.Writer) { w.Num(256, 1) }, api.ErrRange},
		{func(w *field.Writer) { w.Num(0, 0) }, api.ErrArg},
		{func(w *field.Writer) { w.Num(0, 1) }, api.ErrLong},
		{func(w *field.Writer) { w.Text("ab", 256) }, api.ErrArg},
		{func(w *field.Writer) { w.Text("ab", 1) }, api.ErrLong},
		{func(w *field.Writer) { w.Pad(65537) }, api.ErrArg},
	} {
		w := filled(65536) // full: ErrLong holds of each of them too
		x.do(w)
		if b, e := w.Out(); e != x.want || len(b) != 0 {
			t.Errorf("%d: %v, %v; want %v", i, b, e, x.want)
		}
	}
}

func TestP1_1_TheFirstErrorStays(t *testing.T) {
	breaks := []struct {
		do   func(w *field.Writer)
		want api.Errno
	}{
		{func(w *field.Writer) { w.Num(1, 8) }, api.ErrArg},
		{func(w *field.Writer) { w.Num(256, 1) }, api.ErrRange},
		{func(w *field.Writer) { w.Text("ab", 1) }, api.ErrLong},
		{func(w *field.Writer) { w.Text("", -1) }, api.ErrArg},
		{func(w *field.Writer) { w.Raw(make([]byte, 65537)) }, api.ErrLong},
		{func(w *field.Writer) { w.Pad(2) }, api.ErrArg},
	}
	for _, first := range breaks {
		for _, then := range breaks {
			w := filled(3)
			first.do(w)
			wrote(t, "first", w, nil, first.want)
			then.do(w)
			w.Num(1, 1)
			w.Text("a", 1)
			w.Raw([]byte{1})
			w.Pad(20)
			wrote(t, "then", w, nil, first.want)
			wrote(t, "asked again", w, nil, first.want)
		}
	}
}

func TestP1_1_OutIsNewMemory(t *testing.T) {
	w := filled(3)
	a, _ := w.Out()
	b, _ := w.Out()
	a[0] = 1
	_ = append(a, 50)
	_ = append(b, 60)
	w.Raw([]byte{8})
	if b[0] != 7 {
		t.Error("two answers share memory")
	}
	wrote(t, "behind a changed answer", w, []byte{7, 7, 7, 8}, api.OK)
	w.Raw([]byte{9})
	c, _ := w.Out()
	w.Raw([]byte{10})
	if spare := append(c, 99); spare[5] != 99 {
		t.Error(spare)
	}
	wrote(t, "behind a longer answer", w, []byte{7, 7, 7, 8, 9, 10}, api.OK)
	for _, x := range c[len(c):cap(c)] {
		if x != 0 && x != 99 {
			t.Error("the spare room of an answer has old bytes")
		}
	}
}

func TestP1_1_RawKeepsAndChangesNothing(t *testing.T) {
	b := []byte{1, 2, 3, 4}
	w := field.New()
	w.Raw(b[:2])
	w.Raw([]byte{9})
	if !bytes.Equal(b, []byte{1, 2, 3, 4}) {
		t.Error("the argument was changed", b)
	}
	b[0] = 50
	wrote(t, "behind a changed argument", w, []byte{1, 2, 9}, api.OK)
}

func TestP1_1_NoWriter(t *testing.T) {
	copied := *filled(3)
	for i, w := range []*field.Writer{nil, {}, new(field.Writer), &copied} {
		wrote(t, "ahead", w, nil, api.ErrNil)
		w.Num(1, 1)
		w.Num(1, 0)
		w.Text("a", 1)
		w.Text("a", 0)
		w.Raw([]byte{1})
		w.Pad(9)
		w.Pad(-1)
		if b, e := w.Out(); e != api.ErrNil || len(b) != 0 {
			t.Errorf("%d: %v, %v", i, b, e)
		}
	}
}
