package names_test

import (
	"slices"
	"strings"
	"testing"

	"caulker/names"
)

// someNames are texts of which many are names, and many are one volume's.
func someNames(d *dice, n int) []string {
	l := odd()[:60]
	for range n {
		l = append(l, d.few(), d.few()+"@"+d.few(), d.part(), d.part()+"@"+d.part(), d.pick("ab@-\x00\xff", d.below(8)))
	}
	return l
}

func TestP11_3_JoinedIsSplitAsItWas(t *testing.T) {
	d := dice(21)
	for _, volume := range someNames(&d, 30) {
		for _, part := range someNames(&d, 5) {
			s, is := names.Join(volume, part)
			if is != (names.Volume(volume) && names.Part(part)) || is != names.Snapshot(s) {
				t.Fatalf("Join(%q, %q): %q, %t", volume, part, s, is)
			}
			v, p, cut := names.Split(s)
			if cut != is || is && (v != volume || p != part) {
				t.Fatalf("Split(%q): %q, %q, %t", s, v, p, cut)
			}
		}
	}
}

func TestP11_3_SplitIsJoinedAsItWas(t *testing.T) {
	d := dice(22)
	for _, s := range append(someNames(&d, 2000), all("a@1", 7)...) {
		v, p, is := names.Split(s)
		if is != names.Snapshot(s) {
			t.Fatalf("Split(%q): %t", s, is)
		}
		if back, joined := names.Join(v, p); joined != is || is && back != s {
			t.Fatalf("Join(%q, %q): %q, %t", v, p, back, joined)
		}
	}
}

func TestP11_3_NoNameIsBoth(t *testing.T) {
	d := dice(23)
	for _, s := range append(someNames(&d, 2000), all("a@1", 7)...) {
		if names.Volume(s) && names.Snapshot(s) {
			t.Fatalf("%q is both", s)
		}
		if (names.Volume(s) || names.Snapshot(s)) && len(s) > 41 {
			t.Fatalf("%q is a name", s)
		}
	}
}

func TestP11_3_OfTwoJustOneIsLess(t *testing.T) {
	d := dice(24)
	l := append(someNames(&d, 100), all("a@-", 4)...)
	for _, a := range l {
		for _, b := range l {
			if one, other := names.Less(a, b), names.Less(b, a); one && other || (one || other) == (a == b) {
				t.Fatalf("Less(%q, %q): %t, %t", a, b, one, other)
			}
		}
	}
}

func TestP11_3_LessGoesOn(t *testing.T) {
	l := all("a@-", 3)
	for _, a := range l {
		for _, b := range l {
			for _, c := range l {
				if names.Less(a, b) && names.Less(b, c) && !names.Less(a, c) {
					t.Fatalf("%q, %q, %q", a, b, c)
				}
			}
		}
	}
}

// A volume's name comes first of its own, and nothing else's comes between them.
func TestP11_3_SnapshotsStandTogether(t *testing.T) {
	d := dice(25)
	l := append(someNames(&d, 300), all("a@-b", 4)...)
	slices.SortFunc(l, order)
	l = slices.Compact(l)
	past := map[string]bool{}
	last := ""
	for i, s := range l {
		volume, _, snapshot := strings.Cut(s, "@")
		if i > 0 && volume == last && !snapshot {
			t.Fatalf("%q stands behind %q", s, l[i-1])
		}
		if i > 0 && volume != last {
			past[last] = true
		}
		if past[volume] {
			t.Fatalf("%q stands apart from others of its volume, behind %q", s, l[i-1])
		}
		last = volume
	}
	for _, s := range l {
		if v, _, is := names.Split(s); is && !names.Less(v, s) {
			t.Fatalf("%q is not less than %q", v, s)
		}
	}
}
