package uber_test

import (
	"bytes"
	"crypto/sha256"
	"encoding/binary"
	"math"
	"slices"
	"strconv"
	"testing"

	"caulker/api"
	"caulker/uber"
)

// dice is a row of numbers that looks like chance and is the same in each run.
type dice uint64

func (d *dice) below(n int) int {
	*d = *d*6364136223846793005 + 1442695040888963407
	return int(uint64(*d) >> 33 % uint64(n))
}

func (d *dice) bytes(n int) []byte {
	b := make([]byte, n)
	for i := range b {
		b[i] = byte(d.below(256))
	}
	return b
}

func (d *dice) id() api.ID { return api.ID(d.bytes(32)) }

// uber is one that may be; every fourth one's root is a hole.
func (d *dice) uber() api.Uber {
	u := api.Uber{Txg: 1 + d.below(1<<(1+d.below(31))), Len: d.below(16385), Pool: d.id()}
	if d.below(4) > 0 {
		u.Root = d.root(u.Txg)
	}
	return u
}

func (d *dice) root(txg int) api.Pointer {
	p := api.Pointer{Birth: 1 + d.below(txg), Level: 3, Sum: d.id()}
	devs := []int{0, 1, 2, 3, 4, 5, 6, 7}
	for range 1 + d.below(3) {
		i := d.below(len(devs))
		p.Addrs = append(p.Addrs, at(devs[i], 5+d.below(4091)))
		devs = slices.Delete(devs, i, i+1)
	}
	return p
}

func at(dev, sector int) api.Addr { return api.Addr{Dev: dev, At: sector} }

// example is the chapter's u.
func example() api.Uber { return api.Uber{Txg: 258, Len: 300} }

// full is an uberblock of which no byte ahead of the noughts is 0 that may be another one.
func full() api.Uber {
	u := api.Uber{Txg: 1<<24 + 1<<17 + 772, Len: 1<<13 + 5}
	u.Root = api.Pointer{Addrs: []api.Addr{at(6, 258), at(3, 4095), at(1, 1029)}, Birth: 1<<24 + 1<<16 + 515, Level: 3}
	for i := range u.Pool {
		u.Pool[i], u.Root.Sum[i] = byte(i+1), byte(255-i)
	}
	return u
}

// least and most are uberblocks at the limits of all that they have.
func least() api.Uber { return api.Uber{Txg: 1} }

func most() api.Uber {
	ones := api.ID(bytes.Repeat([]byte{255}, 32))
	root := api.Pointer{Addrs: []api.Addr{at(7, 4095), at(6, 4095), at(5, 4095)}, Birth: 1 << 31, Level: 3, Sum: ones}
	return api.Uber{Txg: 1 << 31, Root: root, Len: 16384, Pool: ones}
}

// changed is full's uberblock, with something done to it.
func changed(do func(u *api.Uber)) api.Uber {
	u := full()
	do(&u)
	return u
}

// with is an ID of noughts, but for one byte.
func with(i int, x byte) api.ID {
	var id api.ID
	id[i] = x
	return id
}

// copied shares no memory with u.
func copied(u api.Uber) api.Uber {
	u.Root.Addrs = slices.Clone(u.Root.Addrs)
	return u
}

// text is an uberblock without all but the ends of its digests.
func text(u api.Uber) string {
	s := "Txg " + strconv.Itoa(u.Txg) + " Len " + strconv.Itoa(u.Len) + " Pool " + ends(u.Pool) + " Root"
	for _, a := range u.Root.Addrs[:min(5, len(u.Root.Addrs))] {
		s += " " + strconv.Itoa(a.Dev) + "." + strconv.Itoa(a.At)
	}
	return s + " of " + strconv.Itoa(len(u.Root.Addrs)) + " Birth " + strconv.Itoa(u.Root.Birth) + " Level " + strconv.Itoa(u.Root.Level) + " Sum " + ends(u.Root.Sum)
}

func ends(id api.ID) string { return strconv.Itoa(int(id[0])) + ".." + strconv.Itoa(int(id[31])) }

// same is what Same should tell, found the long way.
func same(a, b api.Uber) bool {
	if len(a.Root.Addrs) != len(b.Root.Addrs) {
		return false
	}
	for i := range a.Root.Addrs {
		if a.Root.Addrs[i].Dev != b.Root.Addrs[i].Dev || a.Root.Addrs[i].At != b.Root.Addrs[i].At {
			return false
		}
	}
	for i := range 32 {
		if a.Pool[i] != b.Pool[i] || a.Root.Sum[i] != b.Root.Sum[i] {
			return false
		}
	}
	return a.Txg == b.Txg && a.Len == b.Len && a.Root.Birth == b.Root.Birth && a.Root.Level == b.Root.Level
}

// able is whether an uberblock may be, as the chapter's words have it.
func able(u api.Uber) bool {
	return !(u.Txg < 1) && !(u.Txg > 2147483648) && !(u.Len < 0) && !(u.Len > 16384) && ableRoot(u.Root, u.Txg)
}

func ableRoot(p api.Pointer, txg int) bool {
	if same(api.Uber{Root: p}, api.Uber{}) {
		return true
	}
	devices := map[int]bool{}
	for _, a := range p.Addrs {
		if a.Dev < 0 || a.Dev > 7 || a.At < 5 || a.At > 4095 || devices[a.Dev] {
			return false
		}
		devices[a.Dev] = true
	}
	return slices.Contains([]int{1, 2, 3}, len(devices)) && p.Level == 3 && !(p.Birth < 1) && !(p.Birth > txg) && !(p.Birth > 2147483648)
}

// sealed is bytes with their digest behind them, by Go's own library.
func sealed(head []byte) []byte {
	sum := sha256.Sum256(head)
	return append(slices.Clone(head), sum[:]...)
}

// head is what is sealed of an uberblock, whether it may be or not, of each number the bytes that it has room for.
func head(u api.Uber) []byte {
	b := make([]byte, 224)
	copy(b, "CAULKER2")
	copy(b[8:], u.Pool[:])
	b[40] = byte(u.Txg >> 32)
	binary.BigEndian.PutUint32(b[41:], uint32(u.Txg))
	b[45], b[46], b[47] = byte(u.Len>>16), byte(u.Len>>8), byte(u.Len)
	b[48] = byte(len(u.Root.Addrs))
	for i, a := range u.Root.Addrs[:min(3, len(u.Root.Addrs))] {
		b[49+3*i] = byte(a.Dev)
		binary.BigEndian.PutUint16(b[50+3*i:], uint16(a.At))
	}
	binary.BigEndian.PutUint32(b[58:], uint32(u.Root.Birth))
	b[62] = byte(u.Root.Level)
	copy(b[63:], u.Root.Sum[:])
	return b
}

func encoded(u api.Uber) []byte { return sealed(head(u)) }

// decoded is what Unpack should answer.
func decoded(b []byte) (api.Uber, api.Errno) {
	if len(b) != 256 {
		return api.Uber{}, api.ErrBytes
	}
	if bytes.Equal(b, make([]byte, 256)) {
		return api.Uber{}, api.ErrMissing
	}
	u := api.Uber{Pool: api.ID(b[8:40]), Txg: int(b[40])<<32 | int(binary.BigEndian.Uint32(b[41:]))}
	u.Len = int(b[45])<<16 | int(b[46])<<8 | int(b[47])
	u.Root = api.Pointer{Birth: int(binary.BigEndian.Uint32(b[58:])), Level: int(b[62]), Sum: api.ID(b[63:95])}
	for i := range min(3, int(b[48])) {
		u.Root.Addrs = append(u.Root.Addrs, at(int(b[49+3*i]), int(b[50+3*i])<<8|int(b[51+3*i])))
	}
	if !able(u) || !bytes.Equal(b, encoded(u)) { // with other bytes in a place that is not read, it is none's
		return api.Uber{}, api.ErrDamaged
	}
	return u, api.OK
}

// roots are such as may be of a Txg, at the edges of each part.
func roots(txg int) []api.Pointer {
	out := []api.Pointer{{}, {Addrs: []api.Addr{}}}
	for _, l := range [][]api.Addr{{at(0, 5)}, {at(7, 4095)}, {at(3, 256), at(2, 255)}, {at(7, 5), at(0, 4095), at(1, 5)}} {
		for _, birth := range []int{1, 2, txg - 1, txg} {
			for _, sum := range []api.ID{{}, {0: 1}, {31: 255}} {
				if birth >= 1 && birth <= txg {
					out = append(out, api.Pointer{Addrs: l, Birth: birth, Level: 3, Sum: sum})
				}
			}
		}
	}
	return out
}

// edges are uberblocks that may be, at the chapter's edges.
func edges() []api.Uber {
	out := []api.Uber{example(), full(), least(), most()}
	for _, pool := range []api.ID{{}, {0: 1}, {31: 1}, most().Pool} {
		for _, txg := range []int{1, 2, 255, 256, 65536, 1<<24 - 1, 1<<31 - 1, 1 << 31} {
			for _, length := range []int{0, 1, 255, 256, 16383, 16384} {
				for _, root := range roots(txg) {
					out = append(out, api.Uber{Txg: txg, Root: root, Len: length, Pool: pool})
				}
			}
		}
	}
	return out
}

// wrongRoots are such as may not be of a Txg, each for one reason, some for several.
func wrongRoots(txg int) []api.Pointer {
	base := func() api.Pointer {
		return api.Pointer{Addrs: []api.Addr{at(1, 9), at(4, 300)}, Birth: (txg + 1) / 2, Level: 3, Sum: api.ID{3: 5}}
	}
	out := []api.Pointer{{Birth: 1}, {Level: 3}, {Level: 1}, {Sum: api.ID{31: 1}}, {Birth: 1, Level: 3}, {Addrs: []api.Addr{{}}}}
	put := func(do func(p *api.Pointer)) {
		p := base()
		do(&p)
		out = append(out, p)
	}
	for _, level := range []int{0, 1, 2, 4, 5, -1, -3, 255, 256 + 3, 1<<32 + 3, math.MinInt, math.MinInt + 3, math.MaxInt} {
		put(func(p *api.Pointer) { p.Level = level })
	}
	for _, birth := range []int{0, -1, txg + 1, txg + 2, txg + 256, 1<<31 + 1, 1 << 32, 1<<32 + 1, -txg, math.MinInt, math.MinInt + 1, math.MaxInt} {
		put(func(p *api.Pointer) { p.Birth = birth })
	}
	for i := range 2 {
		for _, dev := range []int{-1, 8, 9, 255, 256 + 2, 1<<32 + 2, math.MinInt, math.MaxInt} {
			put(func(p *api.Pointer) { p.Addrs[i].Dev = dev })
		}
		for _, sector := range []int{4, 3, 0, -1, -5, 4096, 4097, 8192, 65535, 65536 + 9, 1<<32 + 9, math.MinInt, math.MaxInt} {
			put(func(p *api.Pointer) { p.Addrs[i].At = sector })
		}
	}
	for _, twice := range [][]api.Addr{{at(1, 9), at(1, 9)}, {at(1, 9), at(1, 10)}, {at(1, 9), at(2, 9), at(1, 10)}, {at(2, 9), at(1, 9), at(1, 8)}} {
		put(func(p *api.Pointer) { p.Addrs = twice })
	}
	for _, n := range []int{4, 8, 256, 257, 258, 259} { // as one byte some of these are 0 to 3
		put(func(p *api.Pointer) {
			p.Addrs = nil
			for i := range n {
				p.Addrs = append(p.Addrs, at(i, 5+i))
			}
		})
	}
	put(func(p *api.Pointer) { p.Addrs = nil })
	put(func(p *api.Pointer) { p.Addrs = []api.Addr{} })
	return out
}

// wrong are uberblocks that may not be, each for one reason, some for several.
func wrong() []api.Uber {
	out := []api.Uber{{}, {Len: 300}, {Txg: -1, Len: -1}, {Pool: api.ID{1: 1}}, {Txg: 1, Root: api.Pointer{Addrs: []api.Addr{at(0, 5)}, Birth: 2, Level: 3}}}
	for _, base := range []api.Uber{example(), full(), least(), most()} {
		for _, txg := range []int{0, -1, -258, 1<<31 + 1, 1<<31 + 258, 1 << 32, 1<<32 + 258, 1 << 40, 1<<40 + 258, 1 << 62, math.MinInt, math.MinInt + 258, math.MaxInt} {
			u := copied(base)
			u.Txg = txg
			out = append(out, u)
		}
		for _, length := range []int{-1, -300, 16385, 16386, 16384 + 256, 32768, 1 << 16, 1<<24 - 1, 1 << 24, 1<<24 + 300, 1<<32 + 300, 1 << 62, math.MinInt, math.MinInt + 300, math.MaxInt} {
			u := copied(base)
			u.Len = length
			out = append(out, u)
		}
		for _, root := range wrongRoots(base.Txg) {
			u := base
			u.Root = root
			out = append(out, u)
		}
	}
	return out
}

// answers holds what Unpack answered.
func answers(t *testing.T, what string, b []byte, want api.Uber, wanted api.Errno) {
	t.Helper()
	if u, e := uber.Unpack(b); !same(u, want) || e != wanted {
		t.Fatalf("%s: %s, %v; want %s, %v", what, text(u), e, text(want), wanted)
	}
}

// unpacks demands that Unpack answers what it should.
func unpacks(t *testing.T, what string, b []byte) {
	t.Helper()
	want, wanted := decoded(b)
	answers(t, what, b, want, wanted)
}

// refused demands that Unpack answers this error.
func refused(t *testing.T, what string, b []byte, wanted api.Errno) {
	t.Helper()
	answers(t, what, b, api.Uber{}, wanted)
}
