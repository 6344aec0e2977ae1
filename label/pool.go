package label

import (
	"maps"
	"slices"

	"caulker/api"
	"caulker/hash"
)

// Pool tells of which pool labels are.
func Pool(l []api.Label) (api.ID, bool) {
	votes := map[api.ID]int{}
	for _, one := range l {
		if mayBe(one) {
			votes[one.Pool]++
		}
	}
	var best api.ID
	most := 0
	for _, id := range slices.SortedFunc(maps.Keys(votes), compare) {
		if votes[id] > most { // just more, so that of as many the lesser one stays
			best, most = id, votes[id]
		}
	}
	return best, most > 0
}

func compare(a, b api.ID) int {
	if hash.Less(a, b) {
		return -1
	}
	if hash.Less(b, a) {
		return 1
	}
	return 0
}
