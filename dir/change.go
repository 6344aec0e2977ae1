package dir

import (
	"slices"
	"strings"

	"caulker/api"
	"caulker/names"
	"caulker/record"
)

// change is what is done to a table that is one's own, and in which nothing stands against it.
type change func(t *api.Table)

// done tells a table of its own with a change, or the error.
func done(t api.Table, e api.Errno, do change) (api.Table, api.Errno) {
	if e != api.OK {
		return api.Table{}, e
	}
	return owned(t, tableClone, do), api.OK
}

// owned does to a clone of x what is to be done, and tells that clone: x stays as it was.
func owned[T any](x T, clone func(T) T, do func(*T)) T {
	x = clone(x)
	do(&x)
	return x
}

func tableClone(t api.Table) api.Table {
	t.Records, t.Lives = slices.Clone(t.Records), slices.Clone(t.Lives)
	for i, r := range t.Records {
		t.Records[i] = recordClone(r)
	}
	return t
}

func recordClone(r api.Record) api.Record {
	r.Name, r.Root = strings.Clone(r.Name), pointerClone(r.Root)
	return r
}

func pointerClone(p api.Pointer) api.Pointer {
	p.Addrs = slices.Clone(p.Addrs)
	return p
}

// put puts in a record, which it gives the next ID.
func put(r api.Record) change {
	return func(t *api.Table) {
		insert(t, owned(r, recordClone, func(r *api.Record) { r.ID = t.Next }))
		t.Next++
	}
}

// set changes the record of a name that is there.
func set(name string, do func(r *api.Record)) change {
	return func(t *api.Table) {
		i, _ := record.Find(*t, name)
		do(&t.Records[i])
	}
}

// drop takes out the record of a name that is there.
func drop(name string) change {
	return func(t *api.Table) { take(t, name) }
}

// rename takes out the record of a name that is there, and puts it in where its new name has to stand.
func rename(name, to string) change {
	return func(t *api.Table) {
		for _, r := range take(t, name) {
			r.Name = strings.Clone(to) + r.Name[len(name):]
			insert(t, r)
		}
	}
}

// take takes out the record of a name that is there, and a volume's snapshots, which stand right behind it.
func take(t *api.Table, name string) []api.Record {
	i, _ := record.Find(*t, name)
	id, n := t.Records[i].ID, 1
	for _, r := range t.Records {
		if r.Of == id {
			n++
		}
	}
	taken := slices.Clone(t.Records[i : i+n])
	t.Records = slices.Delete(t.Records, i, i+n)
	return taken
}

func insert(t *api.Table, r api.Record) {
	i, _ := slices.BinarySearchFunc(t.Records, r.Name, against)
	t.Records = slices.Insert(t.Records, i, r)
}

// against holds a record's name against a name.
func against(r api.Record, name string) int {
	switch {
	case names.Less(r.Name, name):
		return -1
	case names.Less(name, r.Name):
		return 1
	}
	return 0
}
