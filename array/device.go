package array

import "caulker/api"

// device is sectors, and what has befallen them.
type device struct {
	faults  faults
	strayed int // with a stray: where the next write is laid
	failing int // with failures: how many reads more are refused
	sectors []sector
}

// sector is what it has firm, and the last loose write to it, or none.
type sector struct {
	firm [api.Sector]byte
	last *write
}

func blank(sectors int) device { return device{sectors: make([]sector, sectors)} }

// tells is the sector's own memory, not to be handed out.
func (s *sector) tells() []byte {
	if s.last != nil {
		return s.last.bytes[:]
	}
	return s.firm[:]
}

// faults are those that a device has, one bit for each.
type faults uint8

const (
	gone faults = 1 << iota
	loss
	stray
	failures
)

func (f *faults) has(x faults) bool { return *f&x != 0 }
func (f *faults) befall(x faults)   { *f |= x }
func (f *faults) end(x faults)      { *f &^= x }

// use tells whether there is a fault that is had once, and ends it.
func (f *faults) use(x faults) bool {
	had := f.has(x)
	f.end(x)
	return had
}

// fail says how many reads are refused from now on; at none the failures are over.
func (d *device) fail(n int) {
	d.failing = n
	if n > 0 {
		d.faults.befall(failures)
	} else {
		d.faults.end(failures)
	}
}
