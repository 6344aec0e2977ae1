package mirror

import "caulker/api"

// tally is a device's errors, as they are counted up.
type tally api.Errors

func (t *tally) refused() { t.Reads++ }
func (t *tally) spoiled() { t.Sums++ }
func (t *tally) healed()  { t.Heals++ }

// count counts one of a device's errors up.
func (m *Mirror) count(dev int, up func(*tally)) { up(&m.tallies[dev]) }
