// Package round is layer 1: rounds of a ladder that turns in a round house (shared/doc/01-round.md).
package round

import (
	"iter"
	"slices"

	"potence/api"
)

// marks says of each column whether it has a property.
type marks [api.MaxColumns]bool

// marked returns the marks of columns.
func marked(columns []int) marks {
	var m marks
	for _, c := range columns {
		m[c] = true
	}
	return m
}

// list returns the marked columns in increasing order.
func (m marks) list() []int {
	var columns []int
	for c, is := range m {
		if is {
			columns = append(columns, c)
		}
	}
	return columns
}

// further returns the column to which one comes by n columns to the right.
func further(h api.House, column, n int) int {
	return ((column+n)%h.Columns + h.Columns) % h.Columns
}

// reached yields the columns that are reached from a stand, from the left to the right.
func reached(h api.House, stand int) iter.Seq[int] {
	return func(yield func(int) bool) {
		for n := -h.Back; n <= h.Fore; n++ {
			if !yield(further(h, stand, n)) {
				return
			}
		}
	}
}

// reaches says whether a column is reached from a stand.
func reaches(h api.House, stand, column int) bool {
	return further(h, column, h.Back-stand) <= h.Back+h.Fore
}

// isColumn says whether a number is a column's.
func isColumn(h api.House, c int) bool { return 0 <= c && c < h.Columns }

// isHole says whether a number is a hole's.
func isHole(h api.House, hole int) bool { return 0 <= hole && hole < h.Columns*h.Rings }

// Check returns the first error of a house.
func Check(h api.House) api.Errno {
	if h.Columns < 3 || h.Columns > api.MaxColumns || h.Rings < 1 || h.Rings > api.MaxTiers {
		return api.ErrArg
	}
	// Fore is held against what Back leaves: the sum of both may be out of range.
	if h.Back < 0 || h.Fore < 0 || h.Fore >= h.Columns-h.Back {
		return api.ErrArg
	}
	if len(h.Closed) > api.MaxColumns {
		return api.ErrLimit
	}
	for i, c := range h.Closed {
		if !isColumn(h, c) || i > 0 && c <= h.Closed[i-1] {
			return api.ErrArg
		}
	}
	return api.OK
}

// checkColumn returns the first error of a house with a single column or stand.
func checkColumn(h api.House, column int) api.Errno {
	if e := Check(h); e != api.OK {
		return e
	}
	if !isColumn(h, column) {
		return api.ErrArg
	}
	return api.OK
}

// checkHoles returns the first error of a house with holes.
func checkHoles(h api.House, holes []int) api.Errno {
	if e := Check(h); e != api.OK {
		return e
	}
	if len(holes) > api.MaxNeed {
		return api.ErrLimit
	}
	for _, x := range holes {
		if !isHole(h, x) {
			return api.ErrArg
		}
	}
	return api.OK
}

// checkStands returns the first error of stands in a house that has none.
func checkStands(h api.House, stands []int) api.Errno {
	if len(stands) > api.MaxNeed {
		return api.ErrLimit
	}
	shut := marked(h.Closed)
	for i, s := range stands {
		if !isColumn(h, s) || shut[s] || i > 0 && s <= stands[i-1] {
			return api.ErrArg
		}
	}
	return api.OK
}

// Column returns the column of a hole.
func Column(h api.House, hole int) (int, api.Errno) {
	if e := Check(h); e != api.OK {
		return 0, e
	}
	if !isHole(h, hole) {
		return 0, api.ErrArg
	}
	return hole % h.Columns, api.OK
}

// Ring returns the ring of a hole.
func Ring(h api.House, hole int) (int, api.Errno) {
	if e := Check(h); e != api.OK {
		return 0, e
	}
	if !isHole(h, hole) {
		return 0, api.ErrArg
	}
	return hole / h.Columns, api.OK
}

// Columns returns the columns of holes.
func Columns(h api.House, holes []int) ([]int, api.Errno) {
	if e := checkHoles(h, holes); e != api.OK {
		return nil, e
	}
	return columnsOf(h, holes).list(), api.OK
}

// columnsOf marks the columns in which holes lie.
func columnsOf(h api.House, holes []int) marks {
	var m marks
	for _, x := range holes {
		m[x%h.Columns] = true
	}
	return m
}

// Reaches returns the columns that are reached from a stand.
func Reaches(h api.House, stand int) ([]int, api.Errno) {
	if e := checkColumn(h, stand); e != api.OK {
		return nil, e
	}
	return slices.Collect(reached(h, stand)), api.OK
}

// Stands returns the open stands from which a column is reached.
func Stands(h api.House, column int) ([]int, api.Errno) {
	if e := checkColumn(h, column); e != api.OK {
		return nil, e
	}
	return openStands(h, marked(h.Closed), column), api.OK
}

// openStands returns, in increasing order, the stands that are not shut from which a column is reached.
func openStands(h api.House, shut marks, column int) []int {
	var stands []int
	for s := range h.Columns {
		if !shut[s] && reaches(h, s, column) {
			stands = append(stands, s)
		}
	}
	return stands
}

// Left returns the columns of holes that are reached from no one of some stands.
func Left(h api.House, holes, stands []int) ([]int, api.Errno) {
	if e := checkHoles(h, holes); e != api.OK {
		return nil, e
	}
	if e := checkStands(h, stands); e != api.OK {
		return nil, e
	}
	left := columnsOf(h, holes)
	for _, s := range stands {
		for c := range reached(h, s) {
			left[c] = false
		}
	}
	return left.list(), api.OK
}

// Close returns a house in which some stands are closed, too.
func Close(h api.House, stands []int) (api.House, api.Errno) {
	if e := Check(h); e != api.OK {
		return api.House{}, e
	}
	if len(stands) > api.MaxNeed {
		return api.House{}, api.ErrLimit
	}
	for _, s := range stands {
		if !isColumn(h, s) {
			return api.House{}, api.ErrArg
		}
	}
	closed := make([]int, len(h.Closed)+len(stands))
	n := copy(closed, h.Closed)
	copy(closed[n:], stands)
	slices.Sort(closed)
	h.Closed = slices.Compact(closed)
	return h, api.OK
}

// Turned returns a house in which all columns have got other numbers.
func Turned(h api.House, by int) (api.House, api.Errno) {
	if e := Check(h); e != api.OK {
		return api.House{}, e
	}
	if by < -api.MaxColumns || by > api.MaxColumns {
		return api.House{}, api.ErrArg
	}
	closed := make([]int, len(h.Closed))
	for i, c := range h.Closed {
		closed[i] = further(h, c, by)
	}
	slices.Sort(closed)
	h.Closed = closed
	return h, api.OK
}
