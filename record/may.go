package record

import (
	"slices"

	"caulker/api"
	"caulker/names"
	"caulker/pointer"
)

// Limits that api has no names for.
const (
	maxID   = api.MaxID - 1
	maxLife = 1<<31 - 1
	maxDone = 1<<31 - 1 // of how many pointers a cursor tells
)

// check tells whether a record is wrong.
type check func(r api.Record) bool

// mayBe looks at records one by one ahead of looking from one to another: what holds of each is relied on then.
func mayBe(t api.Table) bool {
	return within(t.Next, 1, api.MaxID) && within(len(t.Records), 0, api.MaxSets) &&
		mayBeLives(t.Lives) && mayBeCursor(t.Cursor, len(t.Lives)) &&
		pass(t.Records, wrongNumbers, wrongRoot, wrongKind) &&
		slices.IsSortedFunc(t.Records, byName) &&
		pass(t.Records, twice(t), beyond(t), orphan(t), stray(t))
}

// pass tells whether no record is wrong to any of these.
func pass(l []api.Record, checks ...check) bool {
	for _, wrong := range checks {
		if slices.IndexFunc(l, wrong) >= 0 {
			return false
		}
	}
	return true
}

func wrongNumbers(r api.Record) bool {
	return !within(r.ID, 1, maxID) || !within(r.Size, 1, api.MaxBlocks) || !within(r.Made, 1, api.MaxTxg)
}

// wrongRoot lets a volume's root be born at any commit: it is written on, while a snapshot stays as it was made.
func wrongRoot(r api.Record) bool {
	if pointer.Hole(r.Root) {
		return false
	}
	late := r.Kind == api.KindSnapshot && r.Root.Birth > r.Made
	return pointer.Check(r.Root) != api.OK || r.Root.Level != api.Depth || late
}

func wrongKind(r api.Record) bool {
	switch r.Kind {
	case api.KindVolume:
		return !names.Volume(r.Name) || r.Of != 0 || !within(r.Origin, 0, maxID) ||
			!within(r.Quota, 0, api.MaxBlocks) || !within(r.Reserve, 0, api.MaxBlocks)
	case api.KindSnapshot:
		return !names.Snapshot(r.Name) || !within(r.Of, 1, maxID) ||
			r.Origin != 0 || r.Quota != 0 || r.Reserve != 0
	}
	return true
}

func byName(a, b api.Record) int {
	switch {
	case names.Less(a.Name, b.Name):
		return -1
	case names.Less(b.Name, a.Name):
		return 1
	}
	return 0
}

// twice finds a record whose name or ID a second one has.
func twice(t api.Table) check {
	return func(r api.Record) bool {
		alike := func(o api.Record) bool { return o.ID == r.ID || o.Name == r.Name }
		first := slices.IndexFunc(t.Records, alike)
		return slices.IndexFunc(t.Records[first+1:], alike) >= 0
	}
}

func beyond(t api.Table) check {
	return func(r api.Record) bool { return r.ID >= t.Next }
}

// orphan finds a snapshot that is not of the volume that its name says.
func orphan(t api.Table) check {
	return func(r api.Record) bool {
		name, _, is := names.Split(r.Name)
		i, there := Find(t, name)
		return is && (!there || t.Records[i].ID != r.Of)
	}
}

// stray finds a clone whose snapshot is not there.
func stray(t api.Table) check {
	return func(r api.Record) bool {
		origin := func(o api.Record) bool { return o.Kind == api.KindSnapshot && o.ID == r.Origin }
		return r.Origin != 0 && slices.IndexFunc(t.Records, origin) < 0
	}
}

func mayBeLives(l []int) bool {
	wrong := func(life int) bool { return !within(life, 0, maxLife) }
	return within(len(l), api.MinDevs, api.MaxDevs) && slices.IndexFunc(l, wrong) < 0
}

func mayBeCursor(c api.Cursor, devs int) bool {
	last := 0 // a scrub is of all devices: it names none
	switch c.Kind {
	case api.CursorNone:
		return c == api.Cursor{}
	case api.CursorScrub:
	case api.CursorResilver:
		last = devs - 1
	default:
		return false
	}
	return within(c.Dev, 0, last) && within(c.At, 0, maxDone) && within(c.Txg, 1, api.MaxTxg)
}

func within(n, low, high int) bool { return low <= n && n <= high }
