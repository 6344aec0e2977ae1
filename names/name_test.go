package names_test

import (
	"strings"
	"testing"

	"caulker/names"
)

func TestP11_1_Examples(t *testing.T) {
	for s, want := range map[string]bool{"a.1": true, "1a": false, "a@b": false} {
		if names.Volume(s) != want || names.Part(s) != want {
			t.Errorf("Volume(%q): not %t", s, want)
		}
	}
	for s, want := range map[string]bool{"a@b": true, "a@": false, "a@b@c": false} {
		if names.Snapshot(s) != want {
			t.Errorf("Snapshot(%q): not %t", s, want)
		}
	}
	if v, p, is := names.Split("a@b"); v != "a" || p != "b" || !is {
		t.Errorf("Split(a@b): %q, %q, %t", v, p, is)
	}
	if v, p, is := names.Split("a"); v != "" || p != "" || is {
		t.Errorf("Split(a): %q, %q, %t", v, p, is)
	}
	if s, is := names.Join("a", "b"); s != "a@b" || !is {
		t.Errorf("Join(a, b): %q, %t", s, is)
	}
	if s, is := names.Join("a", "B"); s != "" || is {
		t.Errorf("Join(a, B): %q, %t", s, is)
	}
}

func TestP11_1_TheEdges(t *testing.T) {
	for i, s := range odd() {
		told(t, s)
		if is := names.Volume(s) || names.Snapshot(s); i < 11 && !is {
			t.Errorf("%q is no name", s)
		}
		for _, with := range []string{"a", "b.1", "", "A", "a@b", strings.Repeat("a", 20), strings.Repeat("a", 21), s} {
			joins(t, s, with)
			joins(t, with, s)
		}
	}
}

// Which bytes a part has, first and further back, is told of all 256, in names of any length.
func TestP11_1_EachByteAtEachPlace(t *testing.T) {
	for c := range 256 {
		x := string([]byte{byte(c)})
		for n := 1; n <= 21; n++ {
			for at := range n {
				s := strings.Repeat("k", at) + x + strings.Repeat("q", n-at-1)
				told(t, s)
				told(t, s+"@p")
				told(t, "p@"+s)
				joins(t, s, "p")
				joins(t, "p", s)
			}
		}
	}
}

// A character is no byte's low end: all that are text are asked for, first and second.
func TestP11_1_EachCharacter(t *testing.T) {
	for c := rune(128); c <= 0x10ffff; c += 1 + c>>13 {
		s := string(c)
		if names.Part(s) || names.Volume("a"+s) || names.Snapshot("a@"+s) || names.Snapshot("a@a"+s) || names.Snapshot("a"+s+"a") {
			t.Fatalf("%q is in a name", s)
		}
	}
}

func TestP11_1_AllShortTexts(t *testing.T) {
	for _, s := range all("a1@A-", 6) {
		told(t, s)
	}
	short := all("z.@Z", 3)
	for _, a := range short {
		for _, b := range short {
			joins(t, a, b)
		}
	}
}

func TestP11_1_ManyNames(t *testing.T) {
	d := dice(11)
	for range 5000 {
		a, b := d.part(), d.part()
		told(t, a)
		told(t, a+"@"+b)
		told(t, a+b)
		told(t, a+b+"@"+b)
		told(t, a+"@"+b+a)
		joins(t, a, b)
		joins(t, a+b, b)
		joins(t, a, b+a)
		joins(t, a+"@"+b, a)
		joins(t, a, a+"@"+b)
	}
}

// What was told of a text ahead is told of it behind others.
func TestP11_1_TheSameAgain(t *testing.T) {
	l := odd()
	for range 2 {
		for i := range l {
			told(t, l[len(l)-1-i])
			joins(t, l[i], l[len(l)-1-i])
		}
	}
}
