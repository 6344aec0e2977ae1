package label_test

import (
	"math"
	"slices"
	"strconv"
	"testing"

	"caulker/api"
	"caulker/label"
)

// of is a label of a pool.
func of(pool api.ID) api.Label { return changed(func(l *api.Label) { l.Pool = pool }) }

// not is a label of a pool that may not be.
func not(pool api.ID) api.Label {
	return changed(func(l *api.Label) { l.Pool, l.Sectors = pool, 7 })
}

// texts is labels by the ends of their pools, with an x behind those that may not be.
func texts(list []api.Label) string {
	s := ""
	for _, l := range list {
		s += " " + strconv.Itoa(int(l.Pool[0])) + ".." + strconv.Itoa(int(l.Pool[31]))
		if !able(l) {
			s += "x"
		}
	}
	return s
}

// before is whether an ID is the lesser one.
func before(a, b api.ID) bool { return slices.Compare(a[:], b[:]) < 0 }

// pool is what Pool should answer, found by counting anew for each label.
func pool(list []api.Label) (api.ID, bool) {
	best, most := api.ID{}, 0
	for _, one := range list {
		n := 0
		for _, other := range list {
			if able(other) && other.Pool == one.Pool {
				n++
			}
		}
		if n > most || n > 0 && n == most && before(one.Pool, best) {
			best, most = one.Pool, n
		}
	}
	return best, most > 0
}

// pools demands that Pool answers what it should.
func pools(t *testing.T, list []api.Label) {
	t.Helper()
	want, wanted := pool(list)
	if id, is := label.Pool(list); id != want || is != wanted {
		t.Fatalf("Pool of%s: %d..%d, %t; want %d..%d, %t", texts(list), id[0], id[31], is, want[0], want[31], wanted)
	}
}

func TestP8_2_Examples(t *testing.T) {
	if id, is := label.Pool(nil); id != (api.ID{}) || is {
		t.Error(id, is)
	}
	l := example()
	if !label.There(l, l.Pool, 1, 7) || label.There(l, l.Pool, 1, 6) {
		t.Error("There")
	}
}

func TestP8_2_PoolOfNoneAndOne(t *testing.T) {
	pools(t, []api.Label{})
	for _, l := range edges() {
		if id, is := label.Pool([]api.Label{l}); id != l.Pool || !is {
			t.Fatalf("%s: %v, %t", text(l), id, is)
		}
	}
	for _, l := range wrong() {
		if id, is := label.Pool([]api.Label{l}); id != (api.ID{}) || is {
			t.Fatalf("%s: %v, %t", text(l), id, is)
		}
	}
}

func TestP8_2_PoolOfLabelsThatMayNotBe(t *testing.T) {
	all := wrong()
	if id, is := label.Pool(all); id != (api.ID{}) || is {
		t.Fatal(id, is)
	}
	one := of(api.ID{9: 200})
	for i := range all {
		if id, is := label.Pool(slices.Insert(slices.Clone(all), i, one)); id != one.Pool || !is {
			t.Fatalf("at %d: %v, %t", i, id, is)
		}
	}
}

func TestP8_2_PoolOfNoughts(t *testing.T) {
	none, some := of(api.ID{}), of(api.ID{31: 1})
	for _, x := range []struct {
		list []api.Label
		want api.ID
	}{
		{[]api.Label{none}, api.ID{}},
		{[]api.Label{none, some}, api.ID{}},
		{[]api.Label{some, none}, api.ID{}},
		{[]api.Label{some, none, some}, some.Pool},
		{[]api.Label{none, none, some}, api.ID{}},
		{[]api.Label{not(api.ID{}), not(api.ID{}), some}, some.Pool},
	} {
		if id, is := label.Pool(x.list); id != x.want || !is {
			t.Errorf("%s: %v, %t", texts(x.list), id, is)
		}
	}
}

func TestP8_2_OfAsManyTheLesserOne(t *testing.T) {
	for i := range 32 {
		low, high := with(i, 127), with(i, 128)
		for j := i + 1; j < 32; j++ {
			low[j] = 255 // bytes behind the first unlike one do not count
		}
		for n := 1; n <= 4; n++ {
			first := append(slices.Repeat([]api.Label{of(low)}, n), slices.Repeat([]api.Label{of(high)}, n)...)
			last := slices.Clone(first)
			slices.Reverse(last)
			for _, list := range [][]api.Label{first, last} {
				if id, is := label.Pool(list); id != low || !is {
					t.Fatalf("byte %d:%s", i, texts(list))
				}
			}
		}
	}
}

// lists calls do with every list of n of these.
func lists(n int, of []api.Label, do func(l []api.Label)) {
	if n == 0 {
		do(nil)
		return
	}
	lists(n-1, of, func(l []api.Label) {
		for _, x := range of {
			do(append(slices.Clone(l), x))
		}
	})
}

func TestP8_2_PoolOfEveryFew(t *testing.T) {
	kinds := []api.Label{of(api.ID{}), of(api.ID{31: 1}), of(api.ID{0: 1}), not(api.ID{}), not(api.ID{0: 1})}
	for n := range 7 {
		lists(n, kinds, func(list []api.Label) { pools(t, list) })
	}
}

// labels are some of a few pools; some of them may not be.
func (d *dice) labels(n int) []api.Label {
	ids := make([]api.ID, 1+d.below(6))
	for i := range ids {
		ids[i] = d.id()
		if d.below(3) == 0 {
			ids[i] = ids[0]
			ids[i][d.below(32)] ^= 1 << d.below(8)
		}
	}
	bad := wrong()
	out := make([]api.Label, n)
	for i := range out {
		out[i] = d.label()
		if d.below(4) == 0 {
			out[i] = bad[d.below(len(bad))]
		}
		out[i].Pool = ids[d.below(len(ids))]
	}
	return out
}

func TestP8_2_PoolOfMany(t *testing.T) {
	d := dice(4)
	for range 3000 {
		pools(t, d.labels(d.below(20)))
	}
	pools(t, d.labels(2000))
}

func TestP8_2_OtherFieldsDoNotCount(t *testing.T) {
	a, b := api.ID{3: 9}, api.ID{3: 8}
	list := []api.Label{{Pool: a, Devs: 2, Copies: 1, Sectors: 8}, {Pool: b, Dev: 7, Devs: 8, Copies: 3, Sectors: 4096, Life: 1 << 31}, {Pool: a, Dev: 3, Devs: 5, Copies: 3, Sectors: 99, Life: 6}, {Pool: b, Dev: 7, Devs: 8, Copies: 3, Sectors: 4096, Life: 1 << 31}, {Pool: a, Dev: 1, Devs: 2, Copies: 2, Sectors: 8, Life: 1}}
	if id, is := label.Pool(list); id != a || !is {
		t.Error(id, is)
	}
}

func TestP8_2_PoolLeavesLabelsAsTheyWere(t *testing.T) {
	d := dice(5)
	for range 200 {
		room := d.labels(12)
		was := slices.Clone(room)
		n := d.below(13)
		id, is := label.Pool(room[:n])
		if !slices.Equal(room, was) {
			t.Fatal("labels, or the room behind them, are others")
		}
		clear(room)
		if want, wanted := pool(was[:n]); id != want || is != wanted {
			t.Fatalf("%s: %v, %t", texts(was[:n]), id, is)
		}
	}
}

func TestP8_2_PoolIsTheSameAgain(t *testing.T) {
	d := dice(6)
	list := d.labels(200)
	first, _ := label.Pool(list)
	for range 50 {
		if id, is := label.Pool(list); id != first || !is {
			t.Fatal(id, is)
		}
	}
}

// there demands what There answers.
func there(t *testing.T, l api.Label, pool api.ID, dev, life int, want bool) {
	t.Helper()
	if is := label.There(l, pool, dev, life); is != want {
		t.Fatalf("There(%s, %d..%d, %d, %d): %t", text(l), pool[0], pool[31], dev, life, is)
	}
}

func TestP8_2_ThereHoldsPoolDevAndLife(t *testing.T) {
	all := edges()
	d := dice(7)
	for range 200 {
		all = append(all, d.label())
	}
	for _, l := range all {
		there(t, l, l.Pool, l.Dev, l.Life, true)
		for bit := range 256 {
			other := l.Pool
			other[bit/8] ^= 1 << (bit % 8)
			there(t, l, other, l.Dev, l.Life, false)
		}
		for _, more := range []int{1, -1, 2, 256, 1 << 16, 1 << 31, 1 << 32, -1 << 32, 1 << 62, math.MinInt} {
			there(t, l, l.Pool, l.Dev+more, l.Life, false)
			there(t, l, l.Pool, l.Dev, l.Life+more, false)
			there(t, l, l.Pool, l.Dev+more, l.Life+more, false)
			there(t, l, l.Pool, l.Dev+more, l.Life-more, false)
		}
	}
	l := api.Label{Dev: 1, Devs: 3, Copies: 2, Sectors: 300, Life: 2}
	there(t, l, l.Pool, 2, 1, false)
}

func TestP8_2_ThereIsNoLabelThatMayNotBe(t *testing.T) {
	for _, l := range wrong() {
		there(t, l, l.Pool, l.Dev, l.Life, false)
	}
}

func TestP8_2_ThereAsksNothingElse(t *testing.T) {
	for devs := 2; devs <= 8; devs++ {
		for copies := 1; copies <= min(3, devs); copies++ {
			for _, sectors := range []int{8, 300, 4096} {
				l := changed(func(l *api.Label) { l.Devs, l.Copies, l.Sectors = devs, copies, sectors })
				there(t, l, example().Pool, 1, 7, true)
			}
		}
	}
}
