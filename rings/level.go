package rings

import (
	"cmp"
	"slices"

	"potence/api"
)

// byDay returns the indices of a roll's sightings, the earlier ones first.
func byDay(r api.Roll) []int {
	var all []int
	for i := range r.Seen {
		all = append(all, i)
	}
	slices.SortFunc(all, func(a, b int) int { return cmp.Compare(r.Seen[a].Day, r.Seen[b].Day) })
	return all
}

// levelsOf returns, for each sighting of a roll, the most sightings that a chain has that ends with it.
func levelsOf(r api.Roll) []int {
	o := newOrder(r)
	levels := make([]int, o.seen)
	for _, a := range byDay(r) {
		levels[a]++ // All that it can follow is of an earlier day: so far, levels has the most sightings before it.
		for b := range o.later(a) {
			levels[b] = max(levels[b], levels[a])
		}
	}
	return levels
}

// longestTo returns the IDs of a chain that has the most sightings of all that end with a sighting.
func longestTo(r api.Roll, levels []int, b int) []int {
	var before []int
	for a := range r.Seen {
		if levels[a] == levels[b]-1 && canFollow(r.Moves, r.Seen[a], r.Seen[b]) {
			before = longestTo(r, levels, a)
			break
		}
	}
	return joined(before, []int{r.Seen[b].ID})
}

// Longest returns the most sightings that can be of one bird.
func Longest(r api.Roll) ([]int, api.Errno) {
	if e := Check(r); e != api.OK || len(r.Seen) == 0 {
		return nil, e
	}
	levels := levelsOf(r)
	return longestTo(r, levels, slices.Index(levels, slices.Max(levels))), api.OK
}

// Levels returns, for each sighting, how many sightings of one bird can end with it at most.
func Levels(r api.Roll) ([]int, api.Errno) {
	if e := Check(r); e != api.OK {
		return nil, e
	}
	return levelsOf(r), api.OK
}

// areLevels says whether levels, which are at most the greatest one, show that no chain is longer.
func areLevels(r api.Roll, levels []int, greatest int) bool {
	if len(levels) != len(r.Seen) {
		return false
	}
	for _, n := range levels {
		if n < 1 || n > greatest {
			return false
		}
	}
	for s := range newOrder(r).steps() {
		if levels[s.after] <= levels[s.before] {
			return false
		}
	}
	return true
}

// CheckLevels returns OK if sightings can be of one bird, and levels prove that no more can.
func CheckLevels(r api.Roll, chain, levels []int) api.Errno {
	if e := Check(r); e != api.OK {
		return e
	}
	isNothing := len(r.Seen) == 0 && len(chain) == 0
	if !isNothing && !isChain(r, chain) || !areLevels(r, levels, len(chain)) {
		return api.ErrProof
	}
	return api.OK
}
