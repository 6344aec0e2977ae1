package names_test

import (
	"regexp"
	"slices"
	"strings"
	"testing"

	"caulker/names"
)

// dice is a row of numbers that looks like chance and is the same in each run.
type dice uint64

func (d *dice) below(n int) int {
	*d = *d*6364136223846793005 + 1442695040888963407
	return int(uint64(*d) >> 33 % uint64(n))
}

// pick is a text of so many of these bytes.
func (d *dice) pick(from string, n int) string {
	b := make([]byte, n)
	for i := range b {
		b[i] = from[d.below(len(from))]
	}
	return string(b)
}

const (
	letters = "abcdefghijklmnopqrstuvwxyz"
	others  = "0123456789.-_"
)

// part is one of 1 to 20 characters.
func (d *dice) part() string { return d.pick(letters, 1) + d.pick(letters+others, d.below(20)) }

// few is a part out of few, so that many are met again.
func (d *dice) few() string { return d.pick("ab", 1) + d.pick("a-1", d.below(3)) }

// What is a name, told by Go's own library.
var (
	aPart     = regexp.MustCompile(`\A[a-z][-a-z0-9._]{0,19}\z`)
	aSnapshot = regexp.MustCompile(`\A([a-z][-a-z0-9._]{0,19})@([a-z][-a-z0-9._]{0,19})\z`)
)

// all is every text of at most so many of these bytes.
func all(from string, most int) []string {
	l := []string{""}
	for first, n := 0, 0; n < most; n++ {
		last := len(l)
		for _, s := range l[first:last] {
			for i := range len(from) {
				l = append(l, s+from[i:i+1])
			}
		}
		first = last
	}
	return l
}

// odd is texts at and beyond the edges; the first eleven are names.
func odd() []string {
	long := "a" + strings.Repeat("-", 19)
	l := []string{
		"a", "z", "a9", "z.-_", "m0", long, "a@b", "z@a0", long + "@" + long, "a@" + long, long + "@b",
		"", "@", "@@", "a@", "@a", "a@@", "a@@b", "@a@b", "a@b@", "a@b@c", "a@1", "1@a", "A@a", "a@A", "a@-", ".@a",
		"1", "0a", "-", "-a", ".", ".a", "_", "_a", "A", "Z", "aA", "aZ", "a b", " a", "a ", "a\n", "\na", "a@b\n", "a\n@b", "a@\nb",
		"a\x00", "\x00a", "\x00", "a@b\x00", "a\x00@b", "a/b", "a:b", "a`", "a{", "`", "{", "a+b", "a,b", "a^b", "a~",
		"\xff", "a\xff", "a\x80b", "a@\xffb", "ä", "aä", "a\u0161", "\u0161", "a\u0131", "a\u017f", "a\u212a", "a\uff41", "a\ufffd", "a\U00010061", "a\u0660", "a\u2013b", "a\uff20b",
		long + "a", long + "@", "@" + long, long + "a@b", "a@" + long + "a", "a@" + long + "@", long + long, long + "a@" + long + "a",
	}
	for _, n := range []int{18, 19, 20, 21, 22, 255, 256, 257, 261, 276, 1 << 16, 1<<16 + 7, 1 << 20} {
		run := strings.Repeat("a", n)
		l = append(l, run, run+"@b", "b@"+run, run+"@"+run, "b"+strings.Repeat("@", n), strings.Repeat("a@", n), strings.Repeat("\xff", n), strings.Repeat("ä", n))
	}
	return l
}

// shown is a text that may be long, for a message.
func shown(s string) string {
	if len(s) > 60 {
		return s[:60] + ".."
	}
	return s
}

// told holds what is told of one text against Go's own library.
func told(t *testing.T, s string) {
	t.Helper()
	part, cut := aPart.MatchString(s), aSnapshot.FindStringSubmatch(s)
	if is := names.Part(s); is != part {
		t.Errorf("Part(%q): %t", shown(s), is)
	}
	if is := names.Volume(s); is != part {
		t.Errorf("Volume(%q): %t", shown(s), is)
	}
	if is := names.Snapshot(s); is != (cut != nil) {
		t.Errorf("Snapshot(%q): %t", shown(s), is)
	}
	if cut == nil {
		cut = []string{"", "", ""}
	}
	if v, p, is := names.Split(s); v != cut[1] || p != cut[2] || is != (cut[0] != "") {
		t.Errorf("Split(%q): %q, %q, %t", shown(s), v, p, is)
	}
}

// joins holds what two texts are joined to against Go's own library.
func joins(t *testing.T, volume, part string) {
	t.Helper()
	want := ""
	is := aPart.MatchString(volume) && aPart.MatchString(part)
	if is {
		want = volume + "@" + part
	}
	if got, have := names.Join(volume, part); got != want || have != is {
		t.Errorf("Join(%q, %q): %q, %t", shown(volume), shown(part), got, have)
	}
}

// key is a text as numbers whose order is that of names: a text's end is least, then comes its first @, then all other bytes.
func key(s string) []int {
	var l []int
	behind := false
	for i := range len(s) {
		switch {
		case s[i] == '@' && !behind:
			behind = true
			l = append(l, 1)
		default:
			l = append(l, 2+int(s[i]))
		}
	}
	return l
}

// ordered holds Less of all pairs of these texts against their keys.
func ordered(t *testing.T, l []string) {
	t.Helper()
	keys := make([][]int, len(l))
	for i, s := range l {
		keys[i] = key(s)
	}
	for i, a := range l {
		for j, b := range l {
			if want := slices.Compare(keys[i], keys[j]) < 0; names.Less(a, b) != want {
				t.Fatalf("Less(%q, %q): %t", shown(a), shown(b), !want)
			}
		}
	}
}
