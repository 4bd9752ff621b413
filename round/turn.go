package round

import (
	"slices"

	"potence/api"
)

// sweep is how far a turning comes to the right and to the left of where it begins.
type sweep struct{ right, left int }

// length returns the length of the shortest turning of a sweep: the shorter side is gone twice.
func (s sweep) length() int { return s.right + s.left + min(s.right, s.left) }

// turns returns the turns of the shortest turning of a sweep.
func (s sweep) turns() []int {
	both := s.right + s.left
	turns := []int{s.right, -both}
	switch {
	case both == 0:
		return nil
	case s.left == 0:
		return turns[:1]
	case s.right == 0:
		return turns[1:]
	case s.left < s.right:
		return []int{-s.left, both}
	}
	return turns
}

// Gaps returns how far it is from each stand to the next one.
func Gaps(h api.House, stands []int) ([]int, api.Errno) {
	if e := Check(h); e != api.OK {
		return nil, e
	}
	if e := checkStands(h, stands); e != api.OK {
		return nil, e
	}
	var gaps []int
	for i, s := range stands {
		if i+1 < len(stands) {
			gaps = append(gaps, stands[i+1]-s)
		} else {
			gaps = append(gaps, stands[0]+h.Columns-s)
		}
	}
	return gaps, api.OK
}

// checkWay returns the first error of a house with a stand to begin at and stands.
func checkWay(h api.House, from int, stands []int) api.Errno {
	if e := checkColumn(h, from); e != api.OK {
		return e
	}
	return checkStands(h, stands)
}

// sweeps returns the sweeps that come past all of some stands and no further than to them: each leaves out one gap.
func sweeps(h api.House, from int, stands []int) []sweep {
	ways := []int{0}
	for _, s := range stands {
		ways = append(ways, further(h, s, -from))
	}
	slices.Sort(ways)
	ways = append(slices.Compact(ways), h.Columns)
	var all []sweep
	for i := range len(ways) - 1 {
		all = append(all, sweep{right: ways[i], left: h.Columns - ways[i+1]})
	}
	return all
}

// Turn returns the shortest turning from a stand on that comes past all of some stands.
func Turn(h api.House, from int, stands []int) (api.Turning, api.Errno) {
	if e := checkWay(h, from, stands); e != api.OK {
		return api.Turning{}, e
	}
	best := least(sweeps(h, from, stands), func(s sweep) int { return s.length() })
	return api.Turning{Turns: best.turns(), Length: best.length()}, api.OK
}

// CheckTurn returns OK if a turning comes past all of some stands.
func CheckTurn(h api.House, from int, stands []int, t api.Turning) api.Errno {
	if e := checkWay(h, from, stands); e != api.OK {
		return e
	}
	if len(t.Turns) > api.MaxTurns {
		return api.ErrLimit
	}
	length := 0
	at := from
	seen := marked([]int{from})
	for _, turn := range t.Turns {
		if turn == 0 || turn < -h.Columns || turn > h.Columns {
			return api.ErrProof
		}
		step, n := 1, turn
		if turn < 0 {
			step, n = -1, -turn
		}
		for range n {
			at = further(h, at, step)
			seen[at] = true
		}
		length += n
	}
	if length != t.Length {
		return api.ErrProof
	}
	for _, s := range stands {
		if !seen[s] {
			return api.ErrProof
		}
	}
	return api.OK
}
