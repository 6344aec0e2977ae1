package mirror_test

import (
	"slices"
	"testing"

	"caulker/api"
	"caulker/array"
	"caulker/mirror"
)

// state is what a copy is made to be.
type state string

const (
	good    state = "good"
	bad     state = "bad"
	refused state = "refused" // its device has one failure
	gone    state = "gone"
)

// rows are all rows of one to three copies.
func rows() [][]state {
	all := [][]state{{}}
	for i := 0; len(all[i]) < 3; i++ {
		for _, s := range []state{good, bad, refused, gone} {
			all = append(all, append(slices.Clone(all[i]), s))
		}
	}
	return all[1:]
}

// places are where a row's copies lie: neither their devices nor their sectors rise.
func places() []api.Addr { return []api.Addr{at(2, 6), at(0, 7), at(3, 5)} }

// wrongs are what bad copies have instead of rising: a bit is another one, nothing was ever laid, another block.
func wrongs() [][]byte { return [][]byte{changed(rising(), 255, 128), none, of(7)} }

// laid makes an array of four devices on which a block's copies are as a row says, all of it firm. (That of a device with a failure is bad; it can't be told.)
func laid(t testing.TB, row []state) (*array.Array, *mirror.Mirror, api.Pointer) {
	t.Helper()
	a, m := made(t, 4, 8)
	p := to(rising(), places()[:len(row)]...)
	for i, x := range p.Addrs {
		b := rising()
		if row[i] != good {
			b = wrongs()[i]
		}
		fine(t, a.Write(x.Dev, x.At, b), a.Flush(x.Dev))
	}
	for i, x := range p.Addrs {
		switch row[i] {
		case refused:
			fine(t, a.Fail(x.Dev, 1))
		case gone:
			fine(t, a.Pull(x.Dev))
		}
	}
	return a, m, p
}

// wanted is what a call should leave of an array, and of a mirror.
type wanted struct {
	image  [][][]byte
	errors []api.Errors
	steps  int
}

func before(a *array.Array) wanted {
	return wanted{image: image(a), errors: make([]api.Errors, 4), steps: a.Steps()}
}

// look is what looking at copies counts.
func (w *wanted) look(row []state, addrs []api.Addr) {
	for i, s := range row {
		switch s {
		case bad:
			w.errors[addrs[i].Dev].Sums++
		case refused:
			w.errors[addrs[i].Dev].Reads++
		}
	}
}

// heal is what healing leaves, where the array takes so many steps more; it tells how many were healed.
func (w *wanted) heal(row []state, addrs []api.Addr, most int) int {
	n := 0
	for i, s := range row {
		if s == bad && n < most {
			w.errors[addrs[i].Dev].Heals++
			w.write(addrs[i])
			n++
		}
	}
	return n
}

// get demands what Get of a row tells, where the array takes so many steps more, and tells what it looked at.
func (w *wanted) get(t testing.TB, m *mirror.Mirror, p api.Pointer, row []state, most int) []state {
	t.Helper()
	looked, is := till(row)
	w.look(looked, p.Addrs)
	if is {
		w.heal(looked, p.Addrs, most)
		gets(t, m, p, rising())
	} else {
		noGet(t, m, p, without(row))
	}
	return looked
}

// scan demands what Scan of a row tells, where the array takes so many steps more.
func (w *wanted) scan(t testing.TB, m *mirror.Mirror, p api.Pointer, row []state, most int) {
	t.Helper()
	w.look(row, p.Addrs)
	healed := 0
	if counts(row, good) > 0 {
		healed = w.heal(row, p.Addrs, most)
	}
	lost := counts(row, refused) + counts(row, gone)
	scans(t, m, p, api.Scan{Good: counts(row, good), Healed: healed, Bad: counts(row, bad) - healed, Lost: lost})
}

func (w *wanted) write(x api.Addr) {
	w.image[x.Dev][x.At] = rising()
	w.steps++
}

// left demands that an array, and a mirror, are as wanted.
func (w *wanted) left(t testing.TB, what string, a *array.Array, m *mirror.Mirror) {
	t.Helper()
	looks(t, what, a, w.image)
	counted(t, what, m, w.errors...)
	if a.Steps() != w.steps {
		t.Fatalf("%s: steps %d, want %d", what, a.Steps(), w.steps)
	}
}

// failures demands which of a row's copies have their failure still: those that were not looked at.
func failures(t testing.TB, what string, a *array.Array, row []state, addrs []api.Addr, looked func(i int) bool) {
	t.Helper()
	for i, s := range row {
		if s != refused {
			continue
		}
		if _, e := a.Read(addrs[i].Dev, addrs[i].At); (e == api.ErrIO) == looked(i) {
			t.Fatalf("%s: copy %d: %v behind it", what, i, e)
		}
	}
}

// till is a row up to its first good copy, and whether it has one.
func till(row []state) ([]state, bool) {
	i := slices.Index(row, good)
	if i < 0 {
		return row, false
	}
	return row[:i+1], true
}

// without is the error where no copy is good.
func without(row []state) api.Errno {
	if slices.Contains(row, bad) {
		return api.ErrCorrupt
	}
	return api.ErrIO
}

// behind is what a row is behind a call that looked at so many of its copies: what a failure hid is bad, and what was bad is healed if one is good.
func behind(row []state, looked int) []state {
	then := slices.Clone(row)
	for i, s := range row[:looked] {
		switch {
		case s == refused:
			then[i] = bad
		case s == bad && slices.Contains(row, good):
			then[i] = good
		}
	}
	return then
}

// unread makes an array whose devices' next reads are refused, with a mirror.
func unread(t testing.TB) (*array.Array, *mirror.Mirror) {
	t.Helper()
	a, m := made(t, 3, 8)
	fine(t, a.Fail(0, 1), a.Fail(1, 1), a.Fail(2, 1))
	return a, m
}

// untouched demands of such a one that no copy was looked at, and nothing was written.
func untouched(t testing.TB, a *array.Array, m *mirror.Mirror) {
	t.Helper()
	counted(t, "untouched", m)
	if a.Steps() != 0 {
		t.Fatalf("steps %d", a.Steps())
	}
	for dev := range 3 {
		if _, e := a.Read(dev, 5); e != api.ErrIO {
			t.Fatalf("%d was read: %v", dev, e)
		}
	}
}

// counts is how many copies of a row are so.
func counts(row []state, s state) int {
	n := 0
	for _, x := range row {
		if x == s {
			n++
		}
	}
	return n
}
