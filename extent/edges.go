package extent

import (
	"cmp"
	"slices"

	"caulker/api"
)

// edge is where a run of one of two lists begins, or the sector behind it.
type edge struct {
	at     int
	list   int
	begins bool
}

// edgesOf tells where the runs of two lists begin and end, rising.
func edgesOf(lists [2][]api.Extent) []edge {
	var edges []edge
	for i, l := range lists {
		for _, run := range l {
			edges = append(edges, edge{at: run.At, list: i, begins: true}, edge{at: behind(run), list: i})
		}
	}
	slices.SortStableFunc(edges, func(a, b edge) int { return cmp.Compare(a.at, b.at) })
	return edges
}

// merged tells the list of the sectors that are wanted, asked by whether l and m have them; of those that neither has none may be wanted.
func merged(l, m []api.Extent, wanted func(inL, inM bool) bool) ([]api.Extent, api.Errno) {
	if Check(l) != api.OK || Check(m) != api.OK {
		return nil, api.ErrArg
	}
	put, all := joiner()
	from, in := 0, [2]bool{}
	for _, e := range edgesOf([2][]api.Extent{l, m}) { // between two edges neither list changes
		if wanted(in[0], in[1]) {
			put(from, e.at)
		}
		from, in[e.list] = e.at, e.begins
	}
	return all(), api.OK
}
