package record_test

import (
	"fmt"
	"math"
	"slices"
	"strings"
	"testing"

	"caulker/api"
	"caulker/record"
)

// held demands what Same tells of two, whichever stands first.
func held(t *testing.T, a, b api.Table, want bool) {
	t.Helper()
	if record.Same(a, b) != want || record.Same(b, a) != want {
		t.Fatalf("Same: want %t; %s; %s", want, text(a), text(b))
	}
}

// turns are changes of one field each, in each of its parts, of a table with six records of three addresses and with three Lives.
func turns() []func(t *api.Table) {
	out := []func(t *api.Table){
		func(t *api.Table) { t.Records = nil },
		func(t *api.Table) { t.Records = t.Records[:5] },
		func(t *api.Table) { t.Records = t.Records[1:] },
		func(t *api.Table) { t.Records = append(t.Records, api.Record{}) },
		func(t *api.Table) { slices.Reverse(t.Records) },
		func(t *api.Table) { t.Lives = nil },
		func(t *api.Table) { t.Lives = t.Lives[:2] },
		func(t *api.Table) { t.Lives = t.Lives[1:] },
		func(t *api.Table) { t.Lives = append(t.Lives, 0) },
		func(t *api.Table) { slices.Reverse(t.Lives) },
	}
	put := func(do func(t *api.Table)) { out = append(out, do) }
	numbers := []func(t *api.Table) *int{
		func(t *api.Table) *int { return &t.Next },
		func(t *api.Table) *int { return &t.Cursor.Kind },
		func(t *api.Table) *int { return &t.Cursor.Dev },
		func(t *api.Table) *int { return &t.Cursor.At },
		func(t *api.Table) *int { return &t.Cursor.Txg },
	}
	for i := range 3 {
		numbers = append(numbers, func(t *api.Table) *int { return &t.Lives[i] })
	}
	for i := range 6 {
		for _, of := range []func(r *api.Record) *int{
			func(r *api.Record) *int { return &r.ID },
			func(r *api.Record) *int { return &r.Kind },
			func(r *api.Record) *int { return &r.Size },
			func(r *api.Record) *int { return &r.Made },
			func(r *api.Record) *int { return &r.Of },
			func(r *api.Record) *int { return &r.Origin },
			func(r *api.Record) *int { return &r.Quota },
			func(r *api.Record) *int { return &r.Reserve },
			func(r *api.Record) *int { return &r.Root.Birth },
			func(r *api.Record) *int { return &r.Root.Level },
			func(r *api.Record) *int { return &r.Root.Addrs[0].Dev },
			func(r *api.Record) *int { return &r.Root.Addrs[0].At },
			func(r *api.Record) *int { return &r.Root.Addrs[2].Dev },
			func(r *api.Record) *int { return &r.Root.Addrs[2].At },
		} {
			numbers = append(numbers, func(t *api.Table) *int { return of(&t.Records[i]) })
		}
		put(func(t *api.Table) { t.Records[i].Name = "" })
		put(func(t *api.Table) { t.Records[i].Name += "x" })
		put(func(t *api.Table) { t.Records[i].Name = "x" + t.Records[i].Name[1:] })
		put(func(t *api.Table) { t.Records[i].Name = strings.ToUpper(t.Records[i].Name) })
		put(func(t *api.Table) { t.Records[i].Root.Addrs = nil })
		put(func(t *api.Table) { t.Records[i].Root.Addrs = t.Records[i].Root.Addrs[:2] })
		put(func(t *api.Table) { t.Records[i].Root.Addrs = append(t.Records[i].Root.Addrs, api.Addr{}) })
		put(func(t *api.Table) { slices.Reverse(t.Records[i].Root.Addrs) })
		for bit := range 256 {
			put(func(t *api.Table) { t.Records[i].Root.Sum[bit/8] ^= 1 << (bit % 8) })
		}
	}
	for _, of := range numbers {
		for _, more := range []int{1, -1, 256, 1 << 31, 1 << 32, 1 << 40, -1 << 62, math.MinInt} {
			put(func(t *api.Table) { *of(t) += more })
		}
	}
	return out
}

func TestP12_1_SameOfTwoUnlikeInOneFieldAlone(t *testing.T) {
	base := full()
	for i := range base.Records {
		base.Records[i].Root.Addrs = []api.Addr{at(1, 9), at(2, 8), at(3, 7+i)}
	}
	other := copied(base) // one that may not be, in all ways
	other.Next, other.Cursor, other.Lives = -7, api.Cursor{Kind: math.MaxInt, Dev: math.MinInt, At: -1, Txg: -2}, []int{-1, math.MinInt, math.MaxInt}
	for i := range other.Records {
		r := &other.Records[i]
		*r = api.Record{ID: -i, Name: "Ä\xff\x00a" + r.Name, Kind: 77, Size: math.MaxInt, Root: r.Root, Made: -i, Of: math.MinInt, Origin: i, Quota: -1, Reserve: 1 << 40}
		r.Root.Addrs = []api.Addr{at(-1, 9999), at(math.MaxInt, 0), at(-1, math.MinInt)}
		r.Root.Birth, r.Root.Level = -5, 77
	}
	for _, base := range []api.Table{base, other} {
		held(t, base, copied(base), true)
		for _, turn := range turns() {
			x := copied(base)
			turn(&x)
			held(t, base, x, false)
			held(t, x, copied(x), true)
		}
	}
}

func TestP12_1_SameOfAny(t *testing.T) {
	empty := api.Table{Records: []api.Record{}, Lives: []int{}}
	held(t, api.Table{}, api.Table{}, true)
	held(t, api.Table{}, empty, true)
	held(t, empty, copied(empty), true)
	held(t, api.Table{}, none(), false)
	held(t, api.Table{Next: 1, Cursor: api.Cursor{At: 2}}, api.Table{Next: 2, Cursor: api.Cursor{At: 1}}, false)
	hole := one()
	hole.Records[0].Root.Addrs = []api.Addr{}
	held(t, hole, one(), true)
	all := []api.Table{{}, empty, none(), one(), full(), least(), most(), hole}
	for i := range full().Records {
		for j := range i { // of two records each field of one is another's
			all = append(all, changed(func(t *api.Table) { t.Records[i], t.Records[j] = t.Records[j], t.Records[i] }),
				changed(func(t *api.Table) { t.Records[i].ID, t.Records[j].ID = t.Records[j].ID, t.Records[i].ID }),
				changed(func(t *api.Table) { t.Records[i].Root, t.Records[j].Root = t.Records[j].Root, t.Records[i].Root }))
		}
		all = append(all, changed(func(t *api.Table) { t.Records[i] = api.Record{} }), changed(func(t *api.Table) { t.Records = t.Records[:i] }))
	}
	d := dice(2)
	for range 40 {
		all = append(all, d.table())
	}
	for _, a := range all {
		for _, b := range all {
			held(t, a, b, same(a, b))
		}
	}
}

// found demands what Find tells.
func found(t *testing.T, x api.Table, name string) {
	t.Helper()
	want, wanted := 0, false
	for i := len(x.Records) - 1; i >= 0; i-- {
		if x.Records[i].Name == name {
			want, wanted = i, true
		}
	}
	if i, is := record.Find(x, name); i != want || is != wanted {
		t.Fatalf("Find(%s, %q): %d, %t; want %d, %t", text(x), name[:min(50, len(name))], i, is, want, wanted)
	}
}

func TestP12_1_FindExamples(t *testing.T) {
	if i, is := record.Find(one(), "a"); i != 0 || !is {
		t.Error(i, is)
	}
	if i, is := record.Find(one(), "b"); i != 0 || is {
		t.Error(i, is)
	}
}

func TestP12_1_FindOfAny(t *testing.T) {
	texts := []string{"", "a", "b", "c", "cc", "cc@x", "cc@", "cc@x@", "ccc", "@", "CC", "a.1-_", "a.1-_@x", "Ä", "\xff", "a\x00", strings.Repeat("a", 300), long("a"), long("n"), long("z"), long("z") + "@" + long("z")}
	all := []api.Table{{}, none(), one(), full(), least(), most()}
	for n := range 20 { // in no order, some twice, of any Kind, such as are no names
		x := api.Table{Next: -n}
		for i := range n {
			x.Records = append(x.Records, api.Record{Kind: i, Name: texts[(i*i+n)%len(texts)]})
		}
		all = append(all, x)
	}
	twice := api.Table{Records: []api.Record{{Name: "b"}, {Name: "a", ID: 1}, {Name: "a", ID: 2}, {Name: "b"}, {}, {}}}
	for i, name := range map[int]string{0: "b", 1: "a", 4: ""} {
		if j, is := record.Find(twice, name); j != i || !is {
			t.Errorf("%q, which is there twice: %d, %t", name, j, is)
		}
	}
	for _, x := range append(all, twice) {
		for _, name := range texts {
			found(t, x, name)
		}
		for i, r := range x.Records {
			found(t, x, r.Name)
			found(t, x, r.Name+"x")
			found(t, x, fmt.Sprint(i))
		}
	}
}
