package hash_test

import (
	"encoding/hex"
	"strings"
	"testing"

	"caulker/api"
	"caulker/hash"
)

func (d *dice) id() api.ID { return api.ID(d.bytes(32)) }

// with is an ID of noughts, but for one byte.
func with(at int, x byte) api.ID {
	var id api.ID
	id[at] = x
	return id
}

func TestP2_3_LessByTheFirstUnlikeByte(t *testing.T) {
	d := dice(11)
	for at := range 32 {
		for _, x := range [][2]byte{{0, 1}, {0, 255}, {1, 2}, {127, 128}, {254, 255}, {15, 16}} {
			low, high := d.id(), d.id() // behind the unlike byte anything may stand
			copy(high[:at], low[:at])
			low[at], high[at] = x[0], x[1]
			if !hash.Less(low, high) || hash.Less(high, low) {
				t.Errorf("byte %d, %v", at, x)
			}
		}
	}
}

func TestP2_3_LessOfTheSame(t *testing.T) {
	d := dice(12)
	for _, id := range []api.ID{{}, d.id(), d.id(), with(31, 255), with(0, 255)} {
		if hash.Less(id, id) {
			t.Errorf("%x is less than itself", id)
		}
	}
}

func TestP2_3_Text(t *testing.T) {
	for _, x := range []struct {
		id   api.ID
		want string
	}{
		{api.ID{}, strings.Repeat("0", 64)},
		{with(0, 0x1a), "1a" + strings.Repeat("0", 62)},
		{with(31, 0xf0), strings.Repeat("0", 62) + "f0"},
		{with(31, 0x09), strings.Repeat("0", 62) + "09"},
	} {
		if got := hash.Text(x.id); got != x.want {
			t.Errorf("%v: %q, want %q", x.id, got, x.want)
		}
	}
	for x := range 256 {
		id := with(x%32, byte(x))
		if got := hash.Text(id); got != hex.EncodeToString(id[:]) {
			t.Errorf("%x: %q", id, got)
		}
	}
}

func TestP2_3_ParseReads(t *testing.T) {
	id, f := hash.Parse("000102030405060708090a0b0c0d0e0f10203040506070809aabbccddeeff0ff")
	want := api.ID{0, 1, 2, 3, 4, 5, 6, 7, 8, 9, 10, 11, 12, 13, 14, 15, 16, 32, 48, 64, 80, 96, 112, 128, 0x9a, 0xab, 0xbc, 0xcd, 0xde, 0xef, 0xf0, 0xff}
	if id != want || f != (api.Fault{}) {
		t.Errorf("%x, %v", id, f)
	}
}

// refused holds that a text has a fault, and no ID.
func refused(t *testing.T, s string, e api.Errno, at int) {
	t.Helper()
	if id, f := hash.Parse(s); id != (api.ID{}) || f != (api.Fault{Err: e, At: at}) {
		t.Errorf("%q: %x, %v; want %v at %d", s, id, f, e, at)
	}
}

func TestP2_3_ParseHowManyLetters(t *testing.T) {
	for n := range 64 {
		refused(t, strings.Repeat("f", n), api.ErrBytes, n)
	}
	for _, n := range []int{65, 66, 127, 128, 1000} {
		refused(t, strings.Repeat("f", n), api.ErrBytes, 64)
	}
	// how many there are goes ahead of what they are
	refused(t, "G", api.ErrBytes, 1)
	refused(t, strings.Repeat("G", 63), api.ErrBytes, 63)
	refused(t, strings.Repeat("G", 65), api.ErrBytes, 64)
	refused(t, strings.Repeat("f", 64)+"\n", api.ErrBytes, 64)
	// letters are bytes
	refused(t, strings.Repeat("é", 31), api.ErrBytes, 62)
	refused(t, strings.Repeat("é", 33), api.ErrBytes, 64)
}

func TestP2_3_ParseOtherLetters(t *testing.T) {
	good := strings.Repeat("0123456789abcdef", 4)
	for at := range 64 {
		for x := range 256 {
			s := good[:at] + string([]byte{byte(x)}) + good[at+1:]
			if strings.IndexByte("0123456789abcdef", byte(x)) < 0 {
				refused(t, s, api.ErrArg, at)
			} else if id, f := hash.Parse(s); f != (api.Fault{}) || hash.Text(id) != s {
				t.Errorf("%q: %x, %v", s, id, f)
			}
		}
	}
	refused(t, strings.Repeat("G", 64), api.ErrArg, 0)
	refused(t, good[:10]+"G"+good[11:40]+"H"+good[41:], api.ErrArg, 10)
	refused(t, strings.Repeat("é", 32), api.ErrArg, 0)
	refused(t, "0"+strings.Repeat("é", 31)+"0", api.ErrArg, 1)
	refused(t, strings.ToUpper(good), api.ErrArg, 10)
	refused(t, "0x"+good[2:], api.ErrArg, 1)
}

func TestP2_4_TextsAreRead(t *testing.T) {
	d := dice(13)
	for range 500 {
		id := d.id()
		s := hash.Text(id)
		back, f := hash.Parse(s)
		if back != id || f != (api.Fault{}) {
			t.Errorf("%x: told as %q, read as %x, %v", id, s, back, f)
		}
		if again := hash.Text(back); again != s {
			t.Errorf("%q: read, and told as %q", s, again)
		}
	}
}

func TestP2_4_JustOneIsLess(t *testing.T) {
	d := dice(14)
	for range 2000 {
		a, b := d.id(), d.id()
		copy(b[:d.below(32)], a[:])
		if d.below(10) == 0 {
			b = a
		}
		less, more := hash.Less(a, b), hash.Less(b, a)
		if less == more && a != b || (less || more) && a == b {
			t.Errorf("%x, %x: %v, %v", a, b, less, more)
		}
		if less != (hash.Text(a) < hash.Text(b)) {
			t.Errorf("%x, %x: %v, unlike their texts", a, b, less)
		}
	}
}
