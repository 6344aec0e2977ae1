package dir

import (
	"cmp"
	"slices"

	"caulker/api"
	"caulker/names"
	"caulker/pointer"
	"caulker/record"
)

// A call's errors are all worked out, and the first one is told: so what is asked here is asked of any table and of any texts.

// unless tells an error where something does not hold.
func unless(holds bool, e api.Errno) api.Errno {
	if holds {
		return api.OK
	}
	return e
}

// may tells the first error of all calls.
func may(t api.Table, args bool) api.Errno {
	return cmp.Or(record.Check(t), unless(args, api.ErrArg))
}

// mayWrite tells the error of a call that changes a volume.
func mayWrite(t api.Table, name string, args bool) api.Errno {
	r, there := find(t, name)
	return cmp.Or(
		may(t, mayName(name) && args),
		unless(there, api.ErrMissing),
		unless(r.Kind == api.KindVolume, api.ErrReadOnly))
}

// room tells why a record of that name can't be put in.
func room(t api.Table, name string) api.Errno {
	_, taken := find(t, name)
	return cmp.Or(
		unless(!taken, api.ErrExists),
		unless(len(t.Records) < api.MaxSets && t.Next < api.MaxID, api.ErrFull))
}

// find tells the record of a name. Its root's addresses are still the table's: who keeps them clones them.
func find(t api.Table, name string) (api.Record, bool) {
	i, there := record.Find(t, name)
	if !there {
		return api.Record{}, false
	}
	return t.Records[i], true
}

// newest tells whether no snapshot of the same volume is newer.
func newest(t api.Table, s api.Record) bool {
	return !slices.ContainsFunc(t.Records, func(o api.Record) bool {
		return o.Of == s.Of && cmp.Or(cmp.Compare(o.Made, s.Made), cmp.Compare(o.ID, s.ID)) > 0
	})
}

// needed tells whether snapshots of a volume, or clones of a snapshot, are there.
func needed(t api.Table, r api.Record) bool {
	return slices.ContainsFunc(t.Records, func(o api.Record) bool { return o.Of == r.ID || o.Origin == r.ID })
}

func mayName(s string) bool { return names.Volume(s) || names.Snapshot(s) }

// mayFollow tells whether a record of one name may get the other.
func mayFollow(name, to string) bool {
	from, _, is := names.Split(name)
	volume, _, will := names.Split(to)
	return names.Volume(name) && names.Volume(to) || is && will && from == volume
}

func maySize(n int) bool  { return within(n, 1, api.MaxBlocks) }
func mayTxg(n int) bool   { return within(n, 1, api.MaxTxg) }
func mayLimit(n int) bool { return within(n, 0, api.MaxBlocks) }

func mayRoot(p api.Pointer) bool {
	return pointer.Hole(p) || pointer.Check(p) == api.OK && p.Level == api.Depth
}

func within(n, low, high int) bool { return low <= n && n <= high }
