package names_test

import (
	"slices"
	"strings"
	"testing"

	"caulker/names"
)

func TestP11_2_Examples(t *testing.T) {
	for _, x := range []struct {
		a, b string
		want bool
	}{{"a", "a@b", true}, {"a@b", "a-1", true}, {"a@b", "b", true}, {"a@b", "a@b", false}} {
		if names.Less(x.a, x.b) != x.want {
			t.Errorf("Less(%s, %s): %t", x.a, x.b, !x.want)
		}
	}
}

// The order as a list, written out by hand: any texts have their place in it.
func TestP11_2_TheOrder(t *testing.T) {
	l := []string{
		"", "@", "@\x00", "@@", "@@@", "@a", "@a@", "@b",
		"\x00", "\x00@", "A", "A@a", "a", "a@", "a@\x00", "a@-", "a@@", "a@@b", "a@A", "a@a", "a@a\x00", "a@a-", "a@a@", "a@aa", "a@b", "a@b@c", "a@\xff",
		"a\x00", "a\x00@", "a-", "a-@a", "a-1", "a.", "a.@a", "aa", "aa@", "ab", "a\xff", "b", "b@", "b@a", "ba", "\x80", "ä", "\xff", "\xff@",
	}
	for i, a := range l {
		for j, b := range l {
			if names.Less(a, b) != (i < j) {
				t.Errorf("Less(%q, %q): %t", a, b, i >= j)
			}
		}
	}
	ordered(t, l)
}

func TestP11_2_AllShortTexts(t *testing.T) {
	ordered(t, all("@aA", 6))
	ordered(t, all("@a-", 5))
	ordered(t, all("@a\x00\xff", 4))
	ordered(t, all("@?A`{\x7f\x80", 3))
}

func TestP11_2_EachByteAgainstEach(t *testing.T) {
	var l []string
	for c := range 256 {
		x := string([]byte{byte(c)})
		l = append(l, x, "a"+x, "a@"+x)
	}
	ordered(t, l)
}

func TestP11_2_LongTexts(t *testing.T) {
	long := strings.Repeat("a", 1<<16)
	ordered(t, []string{long, long + "@", long + "@" + long, long + "@" + long + "b", long + "-", long[1:], long[1:] + "b", "a@" + long, "a@" + long[1:], "b@" + long, long + "@" + long[1:] + "b"})
	ordered(t, odd()[:90])
}

func TestP11_2_ManyTexts(t *testing.T) {
	d := dice(12)
	var l []string
	for range 400 {
		l = append(l, d.few(), d.few()+"@"+d.few(), d.part(), d.part()+"@"+d.part(), d.pick("@-a\x00\xff@", d.below(30)))
	}
	ordered(t, l)
}

// Whatever order they stand in ahead, names are sorted to one.
func TestP11_2_SortedToOneOrder(t *testing.T) {
	want := []string{"a", "a@a", "a@a-", "a@aa", "a@b", "a-", "a-@a", "a.a", "a0", "a_", "aa", "aa@a", "b", "b@a"}
	d := dice(13)
	for range 200 {
		got := slices.Clone(want)
		for i := range got {
			j := i + d.below(len(got)-i)
			got[i], got[j] = got[j], got[i]
		}
		slices.SortFunc(got, order)
		if !slices.Equal(got, want) {
			t.Fatalf("%q", got)
		}
	}
}

func order(a, b string) int {
	switch {
	case names.Less(a, b):
		return -1
	case names.Less(b, a):
		return 1
	}
	return 0
}
