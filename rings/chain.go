package rings

import (
	"slices"

	"potence/api"
)

// isChain says whether a list is a chain of a roll.
func isChain(r api.Roll, ids []int) bool {
	at := places(r)
	for i, id := range ids {
		b, is := at[id]
		if !is || i > 0 && !canFollow(r.Moves, r.Seen[at[ids[i-1]]], r.Seen[b]) {
			return false
		}
	}
	return len(ids) > 0
}

// isWay says whether chains are a way.
func isWay(r api.Roll, chains [][]int) bool {
	for _, c := range chains {
		if !isChain(r, c) {
			return false
		}
	}
	told := joined(chains...)
	slices.Sort(told)
	all := idSet()
	for _, s := range r.Seen {
		all.add(s.ID)
	}
	return slices.Equal(told, all.list)
}

// areApart says whether a list is sightings of a roll, in increasing order, that are apart.
func areApart(r api.Roll, ids []int) bool {
	at, e := find(r, ids...)
	if e != api.OK || !isIncreasing(ids) {
		return false
	}
	for _, a := range at {
		for _, b := range at {
			if canFollow(r.Moves, r.Seen[a], r.Seen[b]) {
				return false
			}
		}
	}
	return true
}

// CheckFewest returns OK if birds explain all sightings, and it is proved that no fewer do.
func CheckFewest(r api.Roll, b api.Birds) api.Errno {
	if e := Check(r); e != api.OK {
		return e
	}
	if len(b.Apart) != len(b.Chains) || !isWay(r, b.Chains) || !areApart(r, b.Apart) {
		return api.ErrProof
	}
	return api.OK
}

// Explains reports whether chains are birds that explain all sightings.
func Explains(r api.Roll, chains [][]int) (bool, api.Errno) {
	if e := Check(r); e != api.OK {
		return false, e
	}
	return isWay(r, chains), api.OK
}
