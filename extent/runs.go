package extent

import "caulker/api"

// behind is the sector that follows a run.
func behind(run api.Extent) int { return run.At + run.Size }

// counted tells how many sectors runs have that have none in common.
func counted(runs ...api.Extent) int {
	n := 0
	for _, run := range runs {
		n += run.Size
	}
	return n
}

// joiner tells a func that takes sectors, rising, from one on to the one that follows them, and a func that tells the list of all that were taken: of what touches it makes one run, as a list that may be has it.
func joiner() (put func(from, to int), all func() []api.Extent) {
	var runs []api.Extent
	put = func(from, to int) {
		last := len(runs) - 1
		switch {
		case from == to: // no sector
		case last >= 0 && behind(runs[last]) == from:
			runs[last].Size += to - from
		default:
			runs = append(runs, api.Extent{At: from, Size: to - from})
		}
	}
	return put, func() []api.Extent { return runs }
}
