package round

import (
	"iter"
	"slices"

	"potence/api"
)

// search is what rounds are looked for with: a house, its closed stands, and the columns that are to be reached. It is a value: a copy of it with a stand more that is shut, or a column less that is wanted, tells what would be then.
type search struct {
	house        api.House
	shut, wanted marks
}

// newSearch returns the search for rounds of holes; house and holes must have no errors.
func newSearch(h api.House, holes []int) search {
	return search{house: h, shut: marked(h.Closed), wanted: columnsOf(h, holes)}
}

// least returns the first one of the things that cost least; there must be one.
func least[T any](things []T, cost func(T) int) T {
	best, low := things[0], cost(things[0])
	for _, t := range things[1:] {
		if c := cost(t); c < low {
			best, low = t, c
		}
	}
	return best
}

// stands returns the open stands from which a column is reached.
func (s search) stands(column int) []int { return openStands(s.house, s.shut, column) }

// together says whether some open stand reaches both of two columns.
func (s search) together(a, b int) bool {
	for _, stand := range s.stands(a) {
		if reaches(s.house, stand, b) {
			return true
		}
	}
	return false
}

// farthest returns the open stand furthest to the right from which a column is reached; there must be one.
func (s search) farthest(column int) int {
	n := s.house.Back
	for n > -s.house.Fore && s.shut[further(s.house, column, n)] {
		n--
	}
	return further(s.house, column, n)
}

// behind yields the wanted columns that are not reached from a stand, from its right on.
//
// All stands reach equally far. So no other stand reaches round this one's columns, and what it reaches of the columns behind lies side by side: from here on the circle is a line. On a line the stands that after takes, each one as far as possible, are as few as can be, because no stand reaches two of the columns for which they are taken. These are the columns of which cut takes some.
func (s search) behind(stand int) iter.Seq[int] {
	return func(yield func(int) bool) {
		for n := s.house.Fore + 1; n < s.house.Columns-s.house.Back; n++ {
			c := further(s.house, stand, n)
			if s.wanted[c] && !yield(c) {
				return
			}
		}
	}
}

// after returns as few open stands as possible from which all wanted columns are reached that are not reached from a first stand. Each of them must be reached from some open stand.
func (s search) after(first int) []int {
	var stands []int
	for c := range s.behind(first) {
		if n := len(stands); n == 0 || !reaches(s.house, stands[n-1], c) {
			stands = append(stands, s.farthest(c))
		}
	}
	return stands
}

// cut returns a cut with so many columns and a stand from which the first wanted column is reached; there must be one. What lies behind such a stand comes in increasing order: to the right of the last column there is nothing wanted before the first one.
func (s search) cut(stand, size int) api.Cut {
	var columns []int
looking:
	for c := range s.behind(stand) {
		if len(columns) == size {
			break looking
		}
		for _, taken := range columns {
			if s.together(c, taken) {
				continue looking
			}
		}
		columns = append(columns, c)
	}
	return api.Cut{Stand: stand, Columns: columns}
}

// fewest returns the stands of a fewest round, and whether there is a round.
func (s search) fewest() ([]int, bool) {
	columns := s.wanted.list()
	if len(columns) == 0 {
		return nil, true
	}
	for _, c := range columns {
		if len(s.stands(c)) == 0 {
			return nil, false
		}
	}
	first := least(s.stands(columns[0]), func(stand int) int { return len(s.after(stand)) })
	round := append(s.after(first), first)
	slices.Sort(round)
	return round, true
}

// find returns the search for rounds of holes, and the stands of a fewest one.
func find(h api.House, holes []int) (search, []int, api.Errno) {
	if e := checkHoles(h, holes); e != api.OK {
		return search{}, nil, e
	}
	s := newSearch(h, holes)
	stands, ok := s.fewest()
	if !ok {
		return search{}, nil, api.ErrNone
	}
	return s, stands, api.OK
}

// Fewest returns a round with as few stands as possible, and what shows that no fewer are enough.
func Fewest(h api.House, holes []int) (api.Round, api.Errno) {
	s, stands, e := find(h, holes)
	if e != api.OK {
		return api.Round{}, e
	}
	r := api.Round{Stands: stands}
	if len(stands) == 0 {
		return r, api.OK
	}
	for _, first := range s.stands(s.wanted.list()[0]) {
		r.Cuts = append(r.Cuts, s.cut(first, len(stands)-1))
	}
	return r, api.OK
}

// CheckFewest returns OK if a round has as few stands as possible, as its cuts show.
func CheckFewest(h api.House, holes []int, r api.Round) api.Errno {
	if e := checkHoles(h, holes); e != api.OK {
		return e
	}
	if len(r.Stands) > api.MaxNeed || len(r.Cuts) > api.MaxNeed {
		return api.ErrLimit
	}
	for _, c := range r.Cuts {
		if len(c.Columns) > api.MaxNeed {
			return api.ErrLimit
		}
	}
	left, e := Left(h, holes, r.Stands)
	if e != api.OK || len(left) > 0 || !newSearch(h, holes).shown(r.Cuts, len(r.Stands)) {
		return api.ErrProof
	}
	return api.OK
}

// shown says whether cuts show that no round has fewer than n stands.
func (s search) shown(cuts []api.Cut, n int) bool {
	columns := s.wanted.list()
	if len(columns) == 0 {
		return n == 0 && len(cuts) == 0
	}
	firsts := s.stands(columns[0])
	if len(cuts) != len(firsts) {
		return false
	}
	for i, c := range cuts {
		if c.Stand != firsts[i] || len(c.Columns) != n-1 || !s.holds(c) {
			return false
		}
	}
	return true
}

// holds says whether what has an open stand as its Stand is a cut.
func (s search) holds(c api.Cut) bool {
	for i, x := range c.Columns {
		if !isColumn(s.house, x) || !s.wanted[x] || reaches(s.house, c.Stand, x) {
			return false
		}
		if i > 0 && x <= c.Columns[i-1] {
			return false
		}
		for _, y := range c.Columns[:i] {
			if s.together(x, y) {
				return false
			}
		}
	}
	return true
}

// Count returns how many stands a round has at least.
func Count(h api.House, holes []int) (int, api.Errno) {
	_, stands, e := find(h, holes)
	return len(stands), e
}

// Needed returns the stands of all rounds with as few stands as possible.
func Needed(h api.House, holes []int) ([]int, api.Errno) {
	s, stands, e := find(h, holes)
	if e != api.OK {
		return nil, e
	}
	var needed []int
	for _, x := range stands { // a stand that all have is one of these
		without := s
		without.shut[x] = true
		if other, ok := without.fewest(); !ok || len(other) > len(stands) {
			needed = append(needed, x)
		}
	}
	return needed, api.OK
}

// Useful returns the stands of some round with as few stands as possible.
func Useful(h api.House, holes []int) ([]int, api.Errno) {
	s, stands, e := find(h, holes)
	if e != api.OK {
		return nil, e
	}
	var useful []int
	for x := range h.Columns {
		if !s.shut[x] && 1+len(s.after(x)) == len(stands) {
			useful = append(useful, x)
		}
	}
	return useful, api.OK
}

// Saves returns the columns without each of which fewer stands are enough.
func Saves(h api.House, holes []int) ([]int, api.Errno) {
	s, stands, e := find(h, holes)
	if e != api.OK {
		return nil, e
	}
	var saves []int
	for _, c := range s.wanted.list() {
		without := s
		without.wanted[c] = false
		if other, ok := without.fewest(); ok && len(other) < len(stands) {
			saves = append(saves, c)
		}
	}
	return saves, api.OK
}
