package field_test

import (
	"bytes"
	"math"
	"strings"
	"testing"

	"caulker/api"
	"caulker/field"
)

var none = api.Fault{}

func fault(e api.Errno, at int) api.Fault { return api.Fault{Err: e, At: at} }

// behind is a reader of b, past the first n bytes.
func behind(b []byte, n int) *field.Reader {
	r := field.Open(b)
	r.Raw(n)
	return r
}

// stands holds where a reader stands, and its fault, against what it should.
func stands(t *testing.T, what string, r *field.Reader, at, left int, f api.Fault) {
	t.Helper()
	if r.At() != at || r.Left() != left || r.Fault() != f {
		t.Errorf("%s: at %d, %d left, %v; want %d, %d, %v", what, r.At(), r.Left(), r.Fault(), at, left, f)
	}
}

// readsNothing holds that each read answers nought and leaves the reader as it is.
func readsNothing(t *testing.T, what string, r *field.Reader) {
	t.Helper()
	at, left, f, end := r.At(), r.Left(), r.Fault(), r.End()
	if n := r.Num(1, 0, 255); n != 0 {
		t.Errorf("%s: Num reads %d", what, n)
	}
	if s := r.Text(0); s != "" {
		t.Errorf("%s: Text reads %q", what, s)
	}
	if b := r.Raw(1); len(b) != 0 {
		t.Errorf("%s: Raw reads %v", what, b)
	}
	r.Num(8, 0, 0)
	r.Text(256)
	r.Raw(-1)
	r.Raw(0)
	r.Rest()
	stands(t, what, r, at, left, f)
	if r.End() != end {
		t.Errorf("%s: End %v, then %v", what, end, r.End())
	}
}

func TestP1_2_Example(t *testing.T) {
	r := field.Open([]byte{1, 2, 2, 97, 98, 0})
	if n, s := r.Num(2, 0, 999), r.Text(3); n != 258 || s != "ab" || r.End() != none {
		t.Error(n, s, r.End())
	}
}

func TestP1_2_NumReads(t *testing.T) {
	b := []byte{1, 2, 3, 4, 5, 6, 7, 8}
	for size, want := range []int{1: 1, 0x0102, 0x010203, 0x01020304, 0x0102030405, 0x010203040506, 0x01020304050607} {
		if size == 0 {
			continue
		}
		r := field.Open(b)
		if n := r.Num(size, want, want); n != want {
			t.Errorf("Num(%d): %d, %v", size, n, r.Fault())
		}
		stands(t, "Num", r, size, 8-size, none)
	}
	r := field.Open(bytes.Repeat([]byte{255}, 7))
	if n := r.Num(7, math.MinInt, math.MaxInt); n != 1<<56-1 {
		t.Error(n)
	}
}

func TestP1_2_NumFaults(t *testing.T) {
	for _, x := range []struct {
		b               []byte
		size, low, high int
		want            api.Fault
	}{
		{[]byte{3, 3, 5}, 0, 0, 9, fault(api.ErrArg, 2)},
		{[]byte{3, 3, 5}, 8, 0, 9, fault(api.ErrArg, 2)},
		{[]byte{3, 3, 5}, -1, 0, 9, fault(api.ErrArg, 2)},
		{[]byte{3, 3, 5}, math.MaxInt, 0, 9, fault(api.ErrArg, 2)},
		{[]byte{3, 3, 5}, math.MinInt, 0, 9, fault(api.ErrArg, 2)},
		{[]byte{3, 3, 5}, 2, 0, 9, fault(api.ErrBytes, 3)},
		{[]byte{3, 3, 5}, 7, 0, 9, fault(api.ErrBytes, 3)},
		{[]byte{3, 3}, 1, 0, 9, fault(api.ErrBytes, 2)},
		{[]byte{3, 3, 5}, 1, 6, 9, fault(api.ErrRange, 2)},
		{[]byte{3, 3, 5}, 1, 0, 4, fault(api.ErrRange, 2)},
		{[]byte{3, 3, 5}, 1, -9, -1, fault(api.ErrRange, 2)},
		{[]byte{3, 3, 5}, 1, 6, 4, fault(api.ErrRange, 2)},
		{[]byte{3, 3, 5}, 1, 5, 4, fault(api.ErrRange, 2)},
		// the order of the errors
		{[]byte{3, 3}, 8, 6, 4, fault(api.ErrArg, 2)},
		{[]byte{3, 3, 5}, 2, 6, 4, fault(api.ErrBytes, 3)},
	} {
		r := behind(x.b, 2)
		if n := r.Num(x.size, x.low, x.high); n != 0 {
			t.Errorf("Num(%d, %d, %d) of %v: %d", x.size, x.low, x.high, x.b, n)
		}
		stands(t, "Num", r, 2, len(x.b)-2, x.want)
		readsNothing(t, "behind Num", r)
	}
}

func TestP1_2_NumFromLowToHigh(t *testing.T) {
	for _, x := range []struct {
		low, high int
		holds     bool
	}{
		{5, 5, true}, {5, 9, true}, {0, 5, true}, {-3, 5, true}, {math.MinInt, math.MaxInt, true}, {6, 9, false}, {0, 4, false}, {7, 3, false},
	} {
		r := field.Open([]byte{5})
		n := r.Num(1, x.low, x.high)
		if x.holds && (n != 5 || r.Fault() != none) || !x.holds && (n != 0 || r.Fault() != fault(api.ErrRange, 0)) {
			t.Errorf("Num(1, %d, %d): %d, %v", x.low, x.high, n, r.Fault())
		}
	}
}

func TestP1_2_TextReads(t *testing.T) {
	long := strings.Repeat("y", 255)
	for _, x := range []struct {
		b    []byte
		most int
		want string
	}{
		{[]byte{0, 9}, 0, ""},
		{[]byte{0, 0, 0, 9}, 2, ""},
		{[]byte{2, 97, 98, 9}, 2, "ab"},
		{[]byte{2, 97, 98, 0, 0, 9}, 4, "ab"},
		{[]byte{2, 0, 255, 0, 9}, 3, "\x00\xff"},
		{[]byte{1, 0, 0, 9}, 2, "\x00"},
		{append(append([]byte{255}, long...), 9), 255, long},
		{append(make([]byte, 256), 9), 255, ""},
	} {
		r := field.Open(x.b)
		if s := r.Text(x.most); s != x.want {
			t.Errorf("Text(%d) of %v: %q, %v", x.most, x.b, s, r.Fault())
		}
		stands(t, "Text", r, 1+x.most, 1, none)
	}
}

func TestP1_2_TextFaults(t *testing.T) {
	for _, x := range []struct {
		b    []byte
		most int
		want api.Fault
	}{
		{[]byte{3, 3, 0}, -1, fault(api.ErrArg, 2)},
		{[]byte{3, 3, 0}, 256, fault(api.ErrArg, 2)},
		{[]byte{3, 3, 0}, math.MinInt, fault(api.ErrArg, 2)},
		{[]byte{3, 3, 0}, math.MaxInt, fault(api.ErrArg, 2)},
		{[]byte{3, 3}, 0, fault(api.ErrBytes, 2)},
		{[]byte{3, 3, 1, 97}, 2, fault(api.ErrBytes, 4)},
		{[]byte{3, 3, 3, 97, 98, 99}, 2, fault(api.ErrLong, 2)},
		{[]byte{3, 3, 1}, 0, fault(api.ErrLong, 2)},
		{append([]byte{3, 3, 255}, make([]byte, 300)...), 254, fault(api.ErrLong, 2)},
		{[]byte{3, 3, 1, 97, 1}, 2, fault(api.ErrBytes, 4)},
		{[]byte{3, 3, 1, 97, 0, 0, 8, 9}, 5, fault(api.ErrBytes, 6)},
		{[]byte{3, 3, 0, 8, 9}, 2, fault(api.ErrBytes, 3)},
		// the order of the errors
		{[]byte{3, 3}, 256, fault(api.ErrArg, 2)},
		{[]byte{3, 3, 9, 1}, 2, fault(api.ErrBytes, 4)},
		{[]byte{3, 3, 9, 1, 1}, 2, fault(api.ErrLong, 2)},
		{[]byte{3, 3, 0, 1}, 2, fault(api.ErrBytes, 4)},
	} {
		r := behind(x.b, 2)
		if s := r.Text(x.most); s != "" {
			t.Errorf("Text(%d) of %v: %q", x.most, x.b, s)
		}
		stands(t, "Text", r, 2, len(x.b)-2, x.want)
		readsNothing(t, "behind Text", r)
	}
}

func TestP1_2_RawReads(t *testing.T) {
	r := field.Open([]byte{1, 0, 3})
	if b := r.Raw(0); len(b) != 0 {
		t.Error(b)
	}
	stands(t, "Raw(0)", r, 0, 3, none)
	if b := r.Raw(2); !bytes.Equal(b, []byte{1, 0}) {
		t.Error(b)
	}
	stands(t, "Raw(2)", r, 2, 1, none)
	if b := r.Raw(1); !bytes.Equal(b, []byte{3}) {
		t.Error(b)
	}
	r.Raw(0)
	stands(t, "Raw(0) at the end", r, 3, 0, none)
	many := bytes.Repeat([]byte{4}, 70000)
	if b := field.Open(many).Raw(70000); !bytes.Equal(b, many) {
		t.Error("a reader has as many bytes as it is given")
	}
}

func TestP1_2_RawFaults(t *testing.T) {
	for _, x := range []struct {
		n    int
		want api.Fault
	}{
		{-1, fault(api.ErrArg, 2)},
		{math.MinInt, fault(api.ErrArg, 2)},
		{2, fault(api.ErrBytes, 3)},
		{math.MaxInt, fault(api.ErrBytes, 3)},
	} {
		r := behind([]byte{3, 3, 5}, 2)
		if b := r.Raw(x.n); len(b) != 0 {
			t.Errorf("Raw(%d): %v", x.n, b)
		}
		stands(t, "Raw", r, 2, 1, x.want)
		readsNothing(t, "behind Raw", r)
	}
	if r := field.Open(nil); len(r.Raw(-1)) != 0 || r.Fault() != fault(api.ErrArg, 0) {
		t.Error(r.Fault())
	}
}

func TestP1_2_Rest(t *testing.T) {
	for _, x := range []struct {
		b    []byte
		at   int
		left int
		want api.Fault
	}{
		{[]byte{3, 3}, 2, 0, none},
		{[]byte{3, 3, 0}, 3, 0, none},
		{[]byte{3, 3, 0, 0, 0}, 5, 0, none},
		{[]byte{3, 3, 1, 0}, 2, 2, fault(api.ErrBytes, 2)},
		{[]byte{3, 3, 0, 1, 2}, 2, 3, fault(api.ErrBytes, 3)},
		{[]byte{3, 3, 0, 0, 255}, 2, 3, fault(api.ErrBytes, 4)},
	} {
		r := behind(x.b, 2)
		r.Rest()
		stands(t, "Rest", r, x.at, x.left, x.want)
		if x.want != none {
			readsNothing(t, "behind Rest", r)
		}
	}
}

func TestP1_2_OpenKeepsAndChangesNothing(t *testing.T) {
	b := []byte{1, 2, 1, 97, 0, 5}
	r := field.Open(b[:5])
	got := r.Raw(2)
	got[0] = 77
	_ = append(got, 88)
	if !bytes.Equal(b, []byte{1, 2, 1, 97, 0, 5}) {
		t.Error("the argument was changed", b)
	}
	b[3] = 98
	b[4] = 9
	if s := r.Text(2); s != "a" || r.End() != none {
		t.Errorf("%q, %v", s, r.End())
	}
	r = field.Open([]byte{1, 2, 3})
	_ = append(r.Raw(1), 9)
	if c := r.Raw(2); !bytes.Equal(c, []byte{2, 3}) {
		t.Error("the spare room of an answer is the reader's", c)
	}
}

func TestP1_3_EndAsksOnly(t *testing.T) {
	r := field.Open([]byte{7, 8})
	for at := 0; at < 2; at++ {
		stands(t, "ahead", r, at, 2-at, none)
		if f := r.End(); f != fault(api.ErrBytes, at) {
			t.Error(at, f)
		}
		if n := r.Num(1, 0, 9); n != 7+at {
			t.Error("End hinders a read", n)
		}
	}
	stands(t, "behind all", r, 2, 0, none)
	if r.End() != none {
		t.Error(r.End())
	}
	if e := field.Open(nil); e.End() != none || e.At() != 0 || e.Left() != 0 || e.Fault() != none {
		t.Error("a reader of nothing", e.End())
	}
}

func TestP1_3_BehindAFault(t *testing.T) {
	r := behind([]byte{3, 1, 97, 5, 0}, 1)
	r.Text(3)
	stands(t, "Text", r, 1, 4, fault(api.ErrBytes, 3))
	if f := r.End(); f != fault(api.ErrBytes, 3) {
		t.Error("End tells the place, not the fault", f)
	}
	r = behind([]byte{3}, 1)
	r.Num(1, 0, 9)
	stands(t, "at the end", r, 1, 0, fault(api.ErrBytes, 1))
	if f := r.End(); f != fault(api.ErrBytes, 1) {
		t.Error("all is behind it, and yet it has a fault", f)
	}
	readsNothing(t, "at the end", r)
}

func TestP1_3_NoReader(t *testing.T) {
	copied := *field.Open([]byte{1, 2})
	for i, r := range []*field.Reader{nil, {}, new(field.Reader), &copied} {
		stands(t, "no reader", r, 0, 0, fault(api.ErrNil, 0))
		readsNothing(t, "no reader", r)
		if f := r.End(); f != fault(api.ErrNil, 0) {
			t.Error(i, f)
		}
	}
}
