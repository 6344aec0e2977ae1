package array

import "caulker/api"

// need is what must hold for a call to be done; it may ask for what those ahead of it have found. It tells why the call is refused.
type need func(a *Array) error

// demand tells the first refusal.
func (a *Array) demand(needs ...need) error {
	if err := unless(a.made(), "array", errNil); err != nil {
		return err
	}
	for _, n := range needs {
		if err := n(a); err != nil {
			return err
		}
	}
	return nil
}

func running(a *Array) error { return unless(!a.out, "array", errBroken) }

func deviceOf(dev int) need {
	return func(a *Array) error { return unless(within(dev, 0, len(a.devices)-1), "device", errRange) }
}

func sectorOf(dev, at int) need {
	return func(a *Array) error {
		if err := deviceOf(dev)(a); err != nil {
			return err
		}
		return unless(within(at, 0, a.sectors-1), "sector", errRange)
	}
}

func byteOf(place int) need {
	return func(*Array) error { return unless(within(place, 0, api.Sector-1), "byte", errRange) }
}

func argument(may bool) need {
	return func(*Array) error { return unless(may, "argument", errArg) }
}

func there(dev int) need {
	return func(a *Array) error { return unless(!a.devices[dev].faults.has(gone), "device", errGone) }
}

// noFailure uses up a failure where it refuses.
func noFailure(dev int) need {
	return func(a *Array) error {
		d := &a.devices[dev]
		if !d.faults.has(failures) {
			return nil
		}
		d.fail(d.failing - 1)
		return refusal{what: "read", kind: errIO}
	}
}

func within(n, low, high int) bool { return low <= n && n <= high }
