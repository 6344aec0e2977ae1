package record_test

import (
	"bytes"
	"encoding/binary"
	"fmt"
	"math"
	"reflect"
	"regexp"
	"slices"
	"strings"
	"testing"

	"caulker/api"
	"caulker/record"
)

// dice is a row of numbers that looks like chance and is the same in each run.
type dice uint64

func (d *dice) below(n int) int {
	*d = *d*6364136223846793005 + 1442695040888963407
	return int(uint64(*d) >> 33 % uint64(n))
}

func (d *dice) bytes(n int) []byte {
	b := make([]byte, n)
	for i := range b {
		b[i] = byte(d.below(256))
	}
	return b
}

// part is one of few or of 20 characters.
func (d *dice) part() string {
	s := string(rune('a' + d.below(26)))
	for range []int{0, 1, 2, 19}[d.below(4)] {
		s += string("abz019.-_"[d.below(9)])
	}
	return s
}

// root is a hole, or one of Level 3 that is born at a commit up to most.
func (d *dice) root(most int) api.Pointer {
	if d.below(4) == 0 {
		return api.Pointer{}
	}
	p := api.Pointer{Birth: 1 + d.below(most), Level: 3, Sum: api.ID(d.bytes(32))}
	devs := []int{0, 1, 2, 3, 4, 5, 6, 7}
	for range 1 + d.below(3) {
		i := d.below(len(devs))
		p.Addrs = append(p.Addrs, at(devs[i], 5+d.below(4091)))
		devs = slices.Delete(devs, i, i+1)
	}
	return p
}

// table is one that may be: volumes, their snapshots, and what is cloned of them.
func (d *dice) table() api.Table {
	t := api.Table{Lives: make([]int, 2+d.below(7))}
	for i := range t.Lives {
		t.Lives[i] = d.below(1 << d.below(32))
	}
	if kind := d.below(3); kind > 0 {
		t.Cursor = api.Cursor{Kind: kind, At: d.below(1 << d.below(32)), Txg: 1 + d.below(1<<d.below(32))}
		if kind == api.CursorResilver {
			t.Cursor.Dev = d.below(len(t.Lives))
		}
	}
	for range d.below(17) {
		d.put(&t)
	}
	slices.SortFunc(t.Records, func(a, b api.Record) int { return strings.Compare(key(a.Name), key(b.Name)) })
	t.Next += 1 + d.below(1<<d.below(31))
	return t
}

// put lays a record into a table, in no order, unless its name is there.
func (d *dice) put(t *api.Table) {
	made := 1 + d.below(1<<d.below(32))
	r := api.Record{ID: t.Next + 1 + d.below(1<<d.below(26)), Name: d.part(), Kind: api.KindVolume, Size: 1 + d.below(64), Root: d.root(1 << 31), Made: made, Quota: d.below(65), Reserve: d.below(65)}
	if n := len(t.Records); n > 0 {
		switch o := t.Records[d.below(n)]; {
		case d.below(4) == 0:
		case o.Kind == api.KindSnapshot:
			r.Origin, r.Root = o.ID, o.Root
		default:
			r = api.Record{ID: r.ID, Name: o.Name + "@" + d.part(), Kind: api.KindSnapshot, Size: o.Size, Root: d.root(made), Made: made, Of: o.ID}
		}
	}
	if !slices.ContainsFunc(t.Records, func(o api.Record) bool { return o.Name == r.Name }) {
		t.Next, t.Records = r.ID, append(t.Records, r)
	}
}

func at(dev, sector int) api.Addr { return api.Addr{Dev: dev, At: sector} }

// none is the chapter's t, one its u.
func none() api.Table { return api.Table{Next: 2, Lives: []int{0, 0}} }

func one() api.Table {
	return api.Table{Next: 2, Records: []api.Record{{ID: 1, Name: "a", Kind: api.KindVolume, Size: 1, Made: 1}}, Lives: []int{0, 0}}
}

// The records of full, by their places.
const (
	volA = iota
	snapA
	lastA
	cloneB
	volC
	snapC
)

// full is a table of all kinds, with as many unlike bytes as may be.
func full() api.Table {
	root := func(birth int, l ...api.Addr) api.Pointer {
		p := api.Pointer{Addrs: l, Birth: birth, Level: 3}
		for i := range p.Sum {
			p.Sum[i] = byte(birth + 7*i)
		}
		return p
	}
	return api.Table{
		Next: 0x2a0b0c0d,
		Records: []api.Record{
			{ID: 0x0a0b0c01, Name: "a.1-_", Kind: 1, Size: 9, Root: root(0x71020304, at(6, 258), at(3, 4095), at(1, 1029)), Made: 0x01020305, Quota: 33, Reserve: 17},
			{ID: 0x0a0b0c02, Name: "a.1-_@x", Kind: 2, Size: 8, Root: root(0x01020300, at(2, 259), at(4, 773)), Made: 0x02020306, Of: 0x0a0b0c01},
			{ID: 0x1a0b0c03, Name: "a.1-_@z9", Kind: 2, Size: 7, Root: root(0x03020300, at(5, 2570)), Made: 0x03020307, Of: 0x0a0b0c01},
			{ID: 0x190b0c04, Name: "b", Kind: 1, Size: 6, Root: root(0x01020300, at(2, 259), at(4, 773)), Made: 0x04020308, Origin: 0x0a0b0c02, Quota: 5, Reserve: 4},
			{ID: 0x050b0c05, Name: "cc", Kind: 1, Size: 5, Made: 0x05020309, Quota: 2, Reserve: 3},
			{ID: 0x060b0c06, Name: "cc@x", Kind: 2, Size: 3, Made: 0x0602030a, Of: 0x050b0c05},
		},
		Cursor: api.Cursor{Kind: 2, Dev: 2, At: 0x0b0c0d0e, Txg: 0x1b1c1d1e},
		Lives:  []int{0x0e0f1011, 0x12131415, 0x16171819},
	}
}

// long is a part of as many bytes as may be.
func long(first string) string { return first + strings.Repeat("z", 19) }

// most is a table at the upper limits of all that it has: 16 records, the last one a volume's, the first one a clone of one ahead of the last.
func most() api.Table {
	ones := api.ID(bytes.Repeat([]byte{255}, 32))
	root := api.Pointer{Addrs: []api.Addr{at(7, 4095), at(6, 4095), at(5, 4095)}, Birth: 1 << 31, Level: 3, Sum: ones}
	t := api.Table{Next: 1 << 31, Cursor: api.Cursor{Kind: 2, Dev: 7, At: 1<<31 - 1, Txg: 1 << 31}, Lives: slices.Repeat([]int{1<<31 - 1}, 8)}
	id := func(i int) int { return 1<<31 - 1 - i }
	for i := range 14 {
		t.Records = append(t.Records, api.Record{ID: id(15 - i), Name: long(string(rune('a' + i))), Kind: 1, Size: 64, Root: root, Made: 1 << 31, Origin: id(0), Quota: 64, Reserve: 64})
	}
	volume := api.Record{ID: id(1), Name: long("z"), Kind: 1, Size: 64, Root: root, Made: 1 << 31, Origin: id(0), Quota: 64, Reserve: 64}
	snap := api.Record{ID: id(0), Name: long("z") + "@" + long("z"), Kind: 2, Size: 64, Root: root, Made: 1 << 31, Of: id(1)}
	t.Records = append(t.Records, volume, snap)
	return t
}

// least is a table at the lower limits.
func least() api.Table {
	return api.Table{Next: 1, Cursor: api.Cursor{Kind: 1, Txg: 1}, Lives: []int{0, 0}}
}

// changed is full's table, with something done to it.
func changed(do func(t *api.Table)) api.Table {
	t := full()
	do(&t)
	return t
}

// copied shares no memory with t.
func copied(t api.Table) api.Table {
	t.Records, t.Lives = slices.Clone(t.Records), slices.Clone(t.Lives)
	for i := range t.Records {
		t.Records[i].Root.Addrs = slices.Clone(t.Records[i].Root.Addrs)
	}
	return t
}

// plain is t with no list in it that is empty, but not nil.
func plain(t api.Table) api.Table {
	t = copied(t)
	if len(t.Lives) == 0 {
		t.Lives = nil
	}
	if len(t.Records) == 0 {
		t.Records = nil
	}
	for i := range t.Records {
		if len(t.Records[i].Root.Addrs) == 0 {
			t.Records[i].Root.Addrs = nil
		}
	}
	return t
}

// same is what Same should tell, found by Go's own library.
func same(a, b api.Table) bool { return reflect.DeepEqual(plain(a), plain(b)) }

// text is a table for a message.
func text(t api.Table) string {
	s := fmt.Sprintf("%+v", t)
	return s[:min(len(s), 1500)]
}

var (
	aVolume   = regexp.MustCompile(`\A[a-z][-a-z0-9._]{0,19}\z`)
	aSnapshot = regexp.MustCompile(`\A([a-z][-a-z0-9._]{0,19})@[a-z][-a-z0-9._]{0,19}\z`)
)

// key is a text whose order, as bytes, is that of names, of such as may be.
func key(name string) string { return strings.Replace(name, "@", "\x01", 1) }

func holds(n, low, high int) bool { return !(n < low) && !(n > high) }

// ableRoot is whether a record's root may be.
func ableRoot(r api.Record) bool {
	p := r.Root
	if len(p.Addrs) == 0 {
		return p.Birth == 0 && p.Level == 0 && p.Sum == api.ID{}
	}
	devices := map[int]bool{}
	for _, a := range p.Addrs {
		if !holds(a.Dev, 0, 7) || !holds(a.At, 5, 4095) || devices[a.Dev] {
			return false
		}
		devices[a.Dev] = true
	}
	birth := 2147483648
	if r.Kind == 2 {
		birth = r.Made
	}
	return len(devices) <= 3 && p.Level == 3 && holds(p.Birth, 1, min(birth, 2147483648))
}

// ableRecord is whether a record may be, as the chapter's words have it.
func ableRecord(r api.Record) bool {
	if !holds(r.ID, 1, 2147483647) || !holds(r.Size, 1, 64) || !holds(r.Made, 1, 2147483648) || !ableRoot(r) {
		return false
	}
	if r.Kind == 1 {
		return aVolume.MatchString(r.Name) && r.Of == 0 && holds(r.Origin, 0, 2147483647) && holds(r.Quota, 0, 64) && holds(r.Reserve, 0, 64)
	}
	return r.Kind == 2 && aSnapshot.MatchString(r.Name) && holds(r.Of, 1, 2147483647) && r.Origin == 0 && r.Quota == 0 && r.Reserve == 0
}

// able is whether a table may be, as the chapter's words have it.
func able(t api.Table) bool {
	if !holds(t.Next, 1, 2147483648) || len(t.Records) > 16 || !holds(len(t.Lives), 2, 8) || !ableCursor(t.Cursor, len(t.Lives)) {
		return false
	}
	for _, life := range t.Lives {
		if !holds(life, 0, 2147483647) {
			return false
		}
	}
	ids, kinds := map[string]int{}, map[int]int{}
	for i, r := range t.Records {
		if !ableRecord(r) || r.ID >= t.Next || kinds[r.ID] != 0 || i > 0 && key(t.Records[i-1].Name) >= key(r.Name) {
			return false
		}
		ids[r.Name], kinds[r.ID] = r.ID, r.Kind
	}
	for _, r := range t.Records {
		if r.Kind == 2 && ids[aSnapshot.FindStringSubmatch(r.Name)[1]] != r.Of {
			return false
		}
		if r.Origin != 0 && kinds[r.Origin] != 2 {
			return false
		}
	}
	return true
}

func ableCursor(c api.Cursor, devs int) bool {
	if c == (api.Cursor{}) {
		return true
	}
	dev := map[int]int{1: 1, 2: devs}[c.Kind] // of a third kind none may be
	return c.Dev >= 0 && c.Dev < dev && holds(c.At, 0, 2147483647) && holds(c.Txg, 1, 2147483648)
}

// encoded is the bytes of a table, whether it may be or not, of each number those that it has room for.
func encoded(t api.Table) []byte {
	b := binary.BigEndian.AppendUint32(nil, uint32(t.Next))
	b = append(b, byte(len(t.Records)))
	for _, r := range t.Records {
		b = binary.BigEndian.AppendUint32(b, uint32(r.ID))
		b = append(append(b, byte(len(r.Name))), r.Name...)
		b = append(b, byte(r.Kind), byte(r.Size), byte(len(r.Root.Addrs)))
		for i := range 3 {
			var a api.Addr
			if i < len(r.Root.Addrs) {
				a = r.Root.Addrs[i]
			}
			b = binary.BigEndian.AppendUint16(append(b, byte(a.Dev)), uint16(a.At))
		}
		b = append(binary.BigEndian.AppendUint32(b, uint32(r.Root.Birth)), byte(r.Root.Level))
		b = append(b, r.Root.Sum[:]...)
		for _, n := range []int{r.Made, r.Of, r.Origin} {
			b = binary.BigEndian.AppendUint32(b, uint32(n))
		}
		b = append(b, byte(r.Quota), byte(r.Reserve))
	}
	b = append(b, byte(t.Cursor.Kind), byte(t.Cursor.Dev))
	b = binary.BigEndian.AppendUint32(b, uint32(t.Cursor.At))
	b = binary.BigEndian.AppendUint32(b, uint32(t.Cursor.Txg))
	b = append(b, byte(len(t.Lives)))
	for _, life := range t.Lives {
		b = binary.BigEndian.AppendUint32(b, uint32(life))
	}
	return b
}

// size is how many bytes a table's bytes say that they are: more than there are, if a field is not all there.
func size(b []byte) int {
	byteAt := func(i int) int {
		if i < len(b) {
			return int(b[i])
		}
		return 1 << 20
	}
	if len(b) < 5 {
		return 1 << 20
	}
	n := 5
	for range int(b[4]) {
		n += 5 + byteAt(n+4) + 63
	}
	return n + 11 + 4*byteAt(n+10)
}

// decoded is what Read should answer: it goes through bytes whose size is right from field to field, and holds what it finds against the chapter's words.
func decoded(b []byte) (api.Table, api.Fault) {
	switch n := size(b); {
	case len(b) < n:
		return api.Table{}, api.Fault{Err: api.ErrBytes, At: len(b)}
	case len(b) > n:
		return api.Table{}, api.Fault{Err: api.ErrBytes, At: n}
	}
	number := func(i, size int) int {
		n := 0
		for _, x := range b[i : i+size] {
			n = n*256 + int(x)
		}
		return n
	}
	t := api.Table{Next: number(0, 4)}
	i := 5
	for range int(b[4]) {
		r := api.Record{ID: number(i, 4), Name: string(b[i+5 : i+5+int(b[i+4])])}
		i += 5 + len(r.Name)
		r.Kind, r.Size, r.Root = int(b[i]), int(b[i+1]), rootOf(b[i+2:i+49])
		r.Made, r.Of, r.Origin = number(i+49, 4), number(i+53, 4), number(i+57, 4)
		r.Quota, r.Reserve = int(b[i+61]), int(b[i+62])
		t.Records = append(t.Records, r)
		i += 63
	}
	t.Cursor = api.Cursor{Kind: int(b[i]), Dev: int(b[i+1]), At: number(i+2, 4), Txg: number(i+6, 4)}
	for j := i + 11; j < len(b); j += 4 {
		t.Lives = append(t.Lives, number(j, 4))
	}
	if !able(t) || !bytes.Equal(b, encoded(t)) { // with other bytes in an address's place that is not used, it is none's
		return api.Table{}, api.Fault{Err: api.ErrArg}
	}
	return t, api.Fault{}
}

func rootOf(b []byte) api.Pointer {
	p := api.Pointer{Birth: int(binary.BigEndian.Uint32(b[10:])), Level: int(b[14]), Sum: api.ID(b[15:])}
	for i := range min(3, int(b[0])) {
		p.Addrs = append(p.Addrs, at(int(b[1+3*i]), int(binary.BigEndian.Uint16(b[2+3*i:]))))
	}
	return p
}

// checked demands what Check and Bytes tell of a table, and what Read tells of its bytes.
func checked(t *testing.T, what string, x api.Table, may bool) {
	t.Helper()
	if able(x) != may {
		t.Fatalf("%s: the test itself tells otherwise of %s", what, text(x))
	}
	wanted, want := api.ErrArg, []byte(nil)
	if may {
		wanted, want = api.OK, encoded(x)
	}
	if e := record.Check(x); e != wanted {
		t.Fatalf("%s: Check: %v; %s", what, e, text(x))
	}
	if b, e := record.Bytes(x); e != wanted || !bytes.Equal(b, want) || e != api.OK && b != nil {
		t.Fatalf("%s: Bytes: %v, %v; want %v, %v; %s", what, b, e, want, wanted, text(x))
	}
	reads(t, what, encoded(x))
}

// answers demands what Read answers.
func answers(t *testing.T, what string, b []byte, want api.Table, wanted api.Fault) {
	t.Helper()
	x, f := record.Read(b)
	if f != wanted || !same(x, want) || f.Err != api.OK && !reflect.DeepEqual(x, api.Table{}) {
		t.Fatalf("%s: Read: %s, %v; want %s, %v", what, text(x), f, text(want), wanted)
	}
}

// reads demands that Read answers what it should.
func reads(t *testing.T, what string, b []byte) {
	t.Helper()
	want, wanted := decoded(b)
	answers(t, what, b, want, wanted)
}

// refused demands that Read answers this fault.
func refused(t *testing.T, what string, b []byte, e api.Errno, at int) {
	t.Helper()
	answers(t, what, b, api.Table{}, api.Fault{Err: e, At: at})
}

// far are numbers beyond all limits; of some the bytes that they have room for are small numbers'.
func far() []int {
	return []int{math.MinInt, math.MinInt + 1, math.MinInt + 2, -1 << 32, -1 << 31, -256, -2, -1, 1<<31 + 1, 1<<31 + 2, 1<<32 - 1, 1 << 32, 1<<32 + 1, 1<<32 + 2, 1 << 62, 1<<62 + 2, math.MaxInt}
}
