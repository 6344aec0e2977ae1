package addr

import (
	"slices"

	"caulker/api"
)

// set is the addresses that are in a set.
type set map[api.Addr]struct{}

func setOf(l []api.Addr) set {
	s := set{}
	for _, a := range l {
		s.put(a)
	}
	return s
}

func (s set) put(a api.Addr) { s[a] = struct{}{} }

func (s set) has(a api.Addr) bool {
	_, in := s[a]
	return in
}

// rising tells all of a set in order, as a map may be gone through in any.
func (s set) rising() []api.Addr {
	var l []api.Addr
	for a := range s {
		l = append(l, a)
	}
	slices.SortFunc(l, compare)
	return l
}
