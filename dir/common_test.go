package dir_test

import (
	"fmt"
	"math"
	"reflect"
	"regexp"
	"slices"
	"strings"
	"testing"
	"unsafe"

	"caulker/api"
	"caulker/dir"
	"caulker/record"
)

// dice is a row of numbers that looks like chance and is the same in each run.
type dice uint64

func (d *dice) below(n int) int {
	*d = *d*6364136223846793005 + 1442695040888963407
	return int(uint64(*d) >> 33 % uint64(n))
}

func at(dev, sector int) api.Addr { return api.Addr{Dev: dev, At: sector} }

// root is born at a commit, and unlike those of other commits.
func root(birth int, l ...api.Addr) api.Pointer {
	if len(l) == 0 {
		l = []api.Addr{at(birth%3, 5+birth%4000), at(3+birth%5, 6+birth%4000)}
	}
	return api.Pointer{Addrs: l, Birth: birth, Level: 3, Sum: api.ID{0: byte(birth), 1: byte(birth >> 8), 31: 1}}
}

// long is a part of as many bytes as may be.
func long(first string) string { return first + strings.Repeat("z", 19) }

// none is a table without records.
func none() api.Table { return api.Table{Next: 1, Lives: []int{0, 0}} }

// three is the chapter's example: a volume, its snapshot, a clone of that.
func three() api.Table {
	return api.Table{Next: 4, Lives: []int{0, 0}, Records: []api.Record{
		{ID: 1, Name: "a", Kind: 1, Size: 4, Made: 1},
		{ID: 2, Name: "a@x", Kind: 2, Size: 4, Made: 2, Of: 1},
		{ID: 3, Name: "b", Kind: 1, Size: 4, Made: 3, Origin: 2},
	}}
}

// full is a table of all kinds: its IDs are in no order, and of the snapshots of a, b, f others are the newest than by name.
func full() api.Table {
	return api.Table{
		Next: 40,
		Records: []api.Record{
			{ID: 5, Name: "a", Kind: 1, Size: 9, Root: root(90), Made: 6, Quota: 33, Reserve: 17},
			{ID: 9, Name: "a@m", Kind: 2, Size: 8, Root: root(60, at(2, 259), at(4, 773), at(6, 4095)), Made: 70, Of: 5},
			{ID: 6, Name: "a@n", Kind: 2, Size: 7, Root: root(60, at(2, 259), at(4, 773), at(6, 4095)), Made: 70, Of: 5},
			{ID: 2, Name: "a-", Kind: 1, Size: 1, Root: root(1 << 31), Made: 1 << 31, Quota: 64, Reserve: 64},
			{ID: 31, Name: "aa", Kind: 1, Size: 64, Root: root(60, at(2, 259), at(4, 773), at(6, 4095)), Made: 5, Origin: 6, Quota: 1},
			{ID: 7, Name: "b", Kind: 1, Size: 6, Made: 1, Origin: 3, Reserve: 2},
			{ID: 30, Name: "b@x", Kind: 2, Size: 5, Made: 20, Of: 7},
			{ID: 3, Name: "b@y", Kind: 2, Size: 4, Root: root(21), Made: 21, Of: 7},
			{ID: 29, Name: "b@z", Kind: 2, Size: 3, Root: root(3), Made: 19, Of: 7},
			{ID: 8, Name: "d", Kind: 1, Size: 2, Root: root(7), Made: 8},
			{ID: 11, Name: "f", Kind: 1, Size: 11, Root: root(12), Made: 13, Origin: 12},
			{ID: 12, Name: "f@a", Kind: 2, Size: 12, Made: 1 << 31, Of: 11},
			{ID: 13, Name: "f@b", Kind: 2, Size: 13, Root: root(14), Made: 1<<31 - 1, Of: 11},
		},
		Cursor: api.Cursor{Kind: 2, Dev: 2, At: 1234, Txg: 56},
		Lives:  []int{7, 0, 1<<31 - 1},
	}
}

// many is a table of so many records: a volume and its snapshots, by turns of three.
func many(n int) api.Table {
	t := api.Table{Next: 100, Lives: make([]int, 8), Cursor: api.Cursor{Kind: 1, Txg: 1}}
	for i := range n {
		r := api.Record{ID: 99 - i, Name: string(rune('b' + i)), Kind: 1, Size: 1 + i, Made: 1 + i, Root: root(1 + i)}
		if i%3 > 0 {
			v := t.Records[i-i%3]
			r.Kind, r.Name, r.Of = 2, v.Name+"@"+string(rune('b'+i)), v.ID
		}
		t.Records = append(t.Records, r)
	}
	return t
}

// next is a table with another Next.
func next(t api.Table, n int) api.Table {
	t.Next = n
	return t
}

// changed is full's table, with something done to it.
func changed(do func(t *api.Table)) api.Table {
	t := full()
	do(&t)
	return t
}

// several are tables that may be.
func several() []api.Table {
	return []api.Table{none(), three(), full(), many(14), many(15), many(16), next(three(), 1<<31-1), next(three(), 1<<31), next(many(16), 1<<31)}
}

// wrong are tables that may not be, by what is wrong with them.
func wrong() map[string]api.Table {
	of := func(name string) int { i, _ := record.Find(full(), name); return i }
	a, am, aa, bx, f := of("a"), of("a@m"), of("aa"), of("b@x"), of("f")
	return map[string]api.Table{
		"noughts":                   {},
		"Next 0":                    next(none(), 0),
		"Next below 0":              next(none(), -1),
		"Next beyond its limit":     next(full(), 1<<31+1),
		"Next is an ID":             next(full(), 31),
		"Next of 2^32 and more":     next(full(), 1<<32+40),
		"17 records":                many(17),
		"very many records":         {Next: 9, Lives: []int{0, 0}, Records: make([]api.Record, 500)},
		"a record of noughts":       changed(func(t *api.Table) { t.Records = slices.Insert(t.Records, 0, api.Record{}) }),
		"a record twice":            changed(func(t *api.Table) { t.Records = slices.Insert(t.Records, 0, t.Records[a]) }),
		"an ID twice":               changed(func(t *api.Table) { t.Records[aa].ID = 8 }),
		"an ID of 0":                changed(func(t *api.Table) { t.Records[aa].ID = 0 }),
		"names in another order":    changed(func(t *api.Table) { slices.Reverse(t.Records) }),
		"a name that is none":       changed(func(t *api.Table) { t.Records[aa].Name = "aA" }),
		"a snapshot's, of a volume": changed(func(t *api.Table) { t.Records[aa].Name = "a@z" }),
		"a volume's, of a snapshot": changed(func(t *api.Table) { t.Records[bx].Name = "ba" }),
		"no Kind":                   changed(func(t *api.Table) { t.Records[aa].Kind = 3 }),
		"Size 0":                    changed(func(t *api.Table) { t.Records[aa].Size = 0 }),
		"Size 65":                   changed(func(t *api.Table) { t.Records[am].Size = 65 }),
		"Made 0":                    changed(func(t *api.Table) { t.Records[aa].Made = 0 }),
		"Made beyond its limit":     changed(func(t *api.Table) { t.Records[aa].Made = 1<<31 + 1 }),
		"a root of Level 2":         changed(func(t *api.Table) { t.Records[aa].Root.Level = 2 }),
		"a root twice on a device":  changed(func(t *api.Table) { t.Records[aa].Root.Addrs[1] = at(2, 9) }),
		"a snapshot's born late":    changed(func(t *api.Table) { t.Records[am].Root.Birth = 71 }),
		"Quota 65":                  changed(func(t *api.Table) { t.Records[aa].Quota = 65 }),
		"Reserve -1":                changed(func(t *api.Table) { t.Records[aa].Reserve = -1 }),
		"a snapshot with a Quota":   changed(func(t *api.Table) { t.Records[bx].Quota = 1 }),
		"a snapshot of no volume":   changed(func(t *api.Table) { t.Records = slices.Delete(t.Records, f, f+1) }),
		"one of another volume":     changed(func(t *api.Table) { t.Records[am].Of = 7 }),
		"a clone of what is gone":   changed(func(t *api.Table) { t.Records[aa].Origin = 4 }),
		"a clone of a volume":       changed(func(t *api.Table) { t.Records[aa].Origin = 8 }),
		"a volume of a volume":      changed(func(t *api.Table) { t.Records[aa].Of = 5 }),
		"a cursor of no Kind":       changed(func(t *api.Table) { t.Cursor.Kind = 0 }),
		"a cursor of no device":     changed(func(t *api.Table) { t.Cursor.Dev = 3 }),
		"a cursor of no commit":     changed(func(t *api.Table) { t.Cursor.Txg = 0 }),
		"one Life":                  changed(func(t *api.Table) { t.Lives, t.Cursor.Dev = []int{0}, 0 }),
		"no Lives":                  {Next: 1},
		"nine Lives":                changed(func(t *api.Table) { t.Lives = make([]int, 9) }),
		"a Life below 0":            changed(func(t *api.Table) { t.Lives[1] = -1 }),
	}
}

// far are numbers beyond all limits; of some the bytes that they had room for would be small numbers'.
func far() []int {
	return []int{math.MinInt, math.MinInt + 1, -1 << 32, 1 - 1<<32, -1 << 31, -256, -2, -1, 1<<31 + 1, 1<<32 - 1, 1 << 32, 1<<32 + 1, 1<<32 + 7, 1 << 62, 1<<62 + 2, math.MaxInt}
}

// odd are texts that are no names.
func odd() []string {
	return []string{"", "A", "1", "-a", "a b", "a@", "@", "@x", "a@@x", "a@x@y", "a@X", "A@x", "a@1", "a\x00", "a\xff", "ä", "a/x", " a", "a ", long("a") + "z", "a@" + long("x") + "z", long("a") + "z@x", strings.Repeat("a", 5000), strings.Repeat("a@", 300)}
}

// copied shares no memory with t.
func copied(t api.Table) api.Table {
	t.Records, t.Lives = slices.Clone(t.Records), slices.Clone(t.Lives)
	for i := range t.Records {
		t.Records[i].Root.Addrs = slices.Clone(t.Records[i].Root.Addrs)
	}
	return t
}

// plain is t with no list in it that is empty, but not nil.
func plain(t api.Table) api.Table {
	t = copied(t)
	if len(t.Lives) == 0 {
		t.Lives = nil
	}
	if len(t.Records) == 0 {
		t.Records = nil
	}
	for i := range t.Records {
		if len(t.Records[i].Root.Addrs) == 0 {
			t.Records[i].Root.Addrs = nil
		}
	}
	return t
}

// same tells by Go's own library whether two are.
func same(a, b api.Table) bool { return reflect.DeepEqual(plain(a), plain(b)) }

// text is a table, or a call, for a message.
func text(x any) string {
	s := fmt.Sprintf("%+v", x)
	return s[:min(len(s), 2500)]
}

// called are a table's names.
func called(t api.Table) string {
	var out []string
	for _, r := range t.Records {
		out = append(out, r.Name)
	}
	return strings.Join(out, " ")
}

// with is a list of its own, with room behind it where other things stand.
func with[T any](l []T, behind ...T) []T {
	if l == nil {
		return nil
	}
	return append(slices.Clone(l), behind...)[:len(l)]
}

// roomy is t with room behind all of its lists, even if these are empty.
func roomy(t api.Table) api.Table {
	behind := api.Record{ID: 39, Name: "zz", Kind: 1, Size: 3, Made: 3, Root: root(3)}
	t.Records, t.Lives = with(t.Records, behind, behind), with(t.Lives, 3, 4, 5)
	for i := range t.Records {
		t.Records[i].Root.Addrs = with(t.Records[i].Root.Addrs, at(7, 99), at(5, 98))
	}
	return t
}

// whole is t with the room behind its lists, in memory of its own.
func whole(t api.Table) api.Table {
	t.Records, t.Lives = t.Records[:cap(t.Records)], t.Lives[:cap(t.Lives)]
	t = copied(t)
	for i, r := range t.Records {
		t.Records[i].Root.Addrs = slices.Clone(r.Root.Addrs[:cap(r.Root.Addrs)])
	}
	return t
}

// memory is a piece of it.
type memory struct{ from, to uintptr }

func listMemory[T any](l []T) memory {
	from := uintptr(unsafe.Pointer(unsafe.SliceData(l)))
	return memory{from, from + uintptr(cap(l))*unsafe.Sizeof(*new(T))}
}

func textMemory(s string) memory {
	from := uintptr(unsafe.Pointer(unsafe.StringData(s)))
	return memory{from, from + uintptr(len(s))}
}

// lists are the memory of a table's lists, and of lists of addresses, with their room.
func lists(t api.Table, more ...[]api.Addr) []memory {
	out := []memory{listMemory(t.Records), listMemory(t.Lives)}
	for _, r := range t.Records {
		more = append(more, r.Root.Addrs)
	}
	for _, l := range more {
		out = append(out, listMemory(l))
	}
	return out
}

// texts are the memory of a table's texts, and of others.
func texts(t api.Table, more ...string) []memory {
	for _, r := range t.Records {
		more = append(more, r.Name)
	}
	var out []memory
	for _, s := range more {
		out = append(out, textMemory(s))
	}
	return out
}

// shared tells whether a piece of the one meets one of the other, of which it is not the same one.
func shared(a, b []memory) bool {
	for i, x := range a {
		for j, y := range b {
			if x.from < y.to && y.from < x.to && (i != j || &a[0] != &b[0]) {
				return true
			}
		}
	}
	return false
}

var (
	aVolume   = regexp.MustCompile(`\A[a-z][-a-z0-9._]{0,19}\z`)
	aSnapshot = regexp.MustCompile(`\A([a-z][-a-z0-9._]{0,19})@[a-z][-a-z0-9._]{0,19}\z`)
)

// key is a text whose order, as bytes, is that of names.
func key(name string) string { return strings.Replace(name, "@", "\x01", 1) }

// call is one of dir's, but New, with what it is given beside a table.
type call struct {
	of       string
	name, to string
	n, m     int
	root     api.Pointer
}

func aMake(name string, size, txg int) call { return call{of: "Make", name: name, n: size, m: txg} }
func aSnap(name string, txg int) call       { return call{of: "Snap", name: name, m: txg} }
func aClone(snap, name string, txg int) call {
	return call{of: "Clone", name: snap, to: name, m: txg}
}
func aRollback(snap string) call          { return call{of: "Rollback", name: snap} }
func aDrop(name string) call              { return call{of: "Drop", name: name} }
func aRename(name, to string) call        { return call{of: "Rename", name: name, to: to} }
func aResize(name string, size int) call  { return call{of: "Resize", name: name, n: size} }
func aLimit(name string, q, res int) call { return call{of: "Limit", name: name, n: q, m: res} }
func aRoot(name string, p api.Pointer) call {
	return call{of: "Root", name: name, root: p}
}

// each are all calls with these arguments, as far as they have them.
func each(name, to string, n, m int, p api.Pointer) []call {
	return []call{aMake(name, n, m), aSnap(name, m), aClone(name, to, m), aRollback(name), aDrop(name), aRename(name, to), aResize(name, n), aLimit(name, n, m), aRoot(name, p)}
}

func (c call) on(t api.Table) (api.Table, api.Errno) {
	switch c.of {
	case "Make":
		return dir.Make(t, c.name, c.n, c.m)
	case "Snap":
		return dir.Snap(t, c.name, c.m)
	case "Clone":
		return dir.Clone(t, c.name, c.to, c.m)
	case "Rollback":
		return dir.Rollback(t, c.name)
	case "Drop":
		return dir.Drop(t, c.name)
	case "Rename":
		return dir.Rename(t, c.name, c.to)
	case "Resize":
		return dir.Resize(t, c.name, c.n)
	case "Limit":
		return dir.Limit(t, c.name, c.n, c.m)
	}
	return dir.Root(t, c.name, c.root)
}

// able is whether the arguments may be, as the promises have it.
func (c call) able() bool {
	volume, snap := aVolume.MatchString(c.name), aSnapshot.MatchString(c.name)
	txg := c.m >= 1 && c.m <= 2147483648
	size := c.n >= 1 && c.n <= 64
	switch c.of {
	case "Make":
		return volume && size && txg
	case "Snap":
		return snap && txg
	case "Clone":
		return snap && aVolume.MatchString(c.to) && txg
	case "Rollback":
		return snap
	case "Rename":
		of := func(s string) string { return append(aSnapshot.FindStringSubmatch(s), "", "")[1] }
		return volume && aVolume.MatchString(c.to) || snap && of(c.name) == of(c.to)
	case "Resize":
		return (volume || snap) && size
	case "Limit":
		return (volume || snap) && c.n >= 0 && c.n <= 64 && c.m >= 0 && c.m <= 64
	case "Root":
		x := three()
		x.Records[0].Root = c.root
		return (volume || snap) && record.Check(x) == api.OK
	}
	return volume || snap
}

// named is the record of a name, or nil.
func named(t api.Table, name string) *api.Record {
	for i := range t.Records {
		if t.Records[i].Name == name {
			return &t.Records[i]
		}
	}
	return nil
}

// last is the newest of a volume's snapshots.
func last(t api.Table, volume string) api.Record {
	var l []api.Record
	for _, r := range t.Records {
		if strings.HasPrefix(r.Name, volume+"@") {
			l = append(l, r)
		}
	}
	slices.SortFunc(l, func(a, b api.Record) int {
		if a.Made == b.Made {
			return b.ID - a.ID
		}
		return b.Made - a.Made
	})
	return l[0]
}

// tied is whether a volume has snapshots, or a snapshot clones.
func tied(t api.Table, r *api.Record) bool {
	for _, o := range t.Records {
		if strings.HasPrefix(o.Name, r.Name+"@") || r.Kind == 2 && o.Origin == r.ID {
			return true
		}
	}
	return false
}

// refusal is why a call whose arguments may be is refused of a table that may be.
func (c call) refusal(t api.Table) api.Errno {
	r, to := named(t, c.name), named(t, c.to)
	volume, _, _ := strings.Cut(c.name, "@")
	adds := c.of == "Make" || c.of == "Snap" || c.of == "Clone"
	switch {
	case c.of == "Snap" && named(t, volume) == nil, c.of != "Make" && c.of != "Snap" && r == nil:
		return api.ErrMissing
	case (c.of == "Make" || c.of == "Snap") && r != nil, (c.of == "Clone" || c.of == "Rename") && to != nil:
		return api.ErrExists
	case adds && (len(t.Records) >= 16 || t.Next >= 2147483648):
		return api.ErrFull
	case c.of == "Snap" && named(t, volume).Root.Birth > c.m:
		return api.ErrArg
	case c.of == "Rollback" && last(t, volume).Name != c.name, c.of == "Drop" && tied(t, r):
		return api.ErrBusy
	case (c.of == "Resize" || c.of == "Limit" || c.of == "Root") && r.Kind == 2:
		return api.ErrReadOnly
	}
	return api.OK
}

// done is what comes of a call that is not refused.
func (c call) done(t api.Table) api.Table {
	t = copied(t)
	r := named(t, c.name)
	volume, _, _ := strings.Cut(c.name, "@")
	v := named(t, volume)
	add := func(x api.Record) {
		x.ID, x.Made = t.Next, c.m
		t.Next, t.Records = t.Next+1, append(t.Records, x)
	}
	switch c.of {
	case "Make":
		add(api.Record{Name: c.name, Kind: 1, Size: c.n})
	case "Snap":
		add(api.Record{Name: c.name, Kind: 2, Size: v.Size, Root: v.Root, Of: v.ID})
	case "Clone":
		add(api.Record{Name: c.to, Kind: 1, Size: r.Size, Root: r.Root, Origin: r.ID})
	case "Rollback":
		v.Size, v.Root = r.Size, r.Root
	case "Drop":
		t.Records = slices.DeleteFunc(t.Records, func(x api.Record) bool { return x.Name == c.name })
	case "Rename":
		for i, x := range t.Records {
			if behind, is := strings.CutPrefix(x.Name, c.name); is && (behind == "" || behind[0] == '@') {
				t.Records[i].Name = c.to + behind
			}
		}
	case "Resize":
		r.Size = c.n
	case "Limit":
		r.Quota, r.Reserve = c.n, c.m
	case "Root":
		r.Root = c.root
	}
	slices.SortFunc(t.Records, func(a, b api.Record) int { return strings.Compare(key(a.Name), key(b.Name)) })
	return copied(t)
}

// wanted is what a call should answer, found by the promises' words.
func (c call) wanted(t api.Table) (api.Table, api.Errno) {
	if record.Check(t) != api.OK || !c.able() {
		return api.Table{}, api.ErrArg
	}
	if e := c.refusal(t); e != api.OK {
		return api.Table{}, e
	}
	return c.done(t), api.OK
}

// holds demands that a call answers what it should, that what it is given stays as it was, and that it shares no memory with the answer.
func (c call) holds(t *testing.T, x api.Table) (api.Table, api.Errno) {
	t.Helper()
	want, wanted := c.wanted(x)
	x = roomy(x)
	c.root.Addrs = with(c.root.Addrs, at(7, 97), at(6, 96))
	was, rootWas := whole(x), slices.Clone(c.root.Addrs[:cap(c.root.Addrs)])
	got, e := c.on(x)
	if e != wanted || !same(got, want) || e != api.OK && !reflect.DeepEqual(got, api.Table{}) {
		t.Fatalf("%s of %s: %s, %v; want %s, %v", text(c), text(x), text(got), e, text(want), wanted)
	}
	if !reflect.DeepEqual(whole(x), was) || !slices.Equal(c.root.Addrs[:cap(c.root.Addrs)], rootWas) {
		t.Fatalf("%s: what was handed in is changed: %s, was %s", text(c), text(whole(x)), text(was))
	}
	told := lists(got)
	if shared(told, told) || shared(told, lists(x, c.root.Addrs)) || shared(texts(got), texts(x, c.name, c.to)) {
		t.Fatalf("%s of %s: memory is shared", text(c), text(x))
	}
	return got, e
}

// answers demands that a call answers this error.
func (c call) answers(t *testing.T, x api.Table, want api.Errno) api.Table {
	t.Helper()
	if _, e := c.wanted(x); e != want {
		t.Fatalf("%s of %s: the test itself tells %v; want %v", text(c), text(x), e, want)
	}
	got, _ := c.holds(t, x)
	return got
}
