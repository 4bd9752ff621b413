package stick

import (
	"math/bits"

	"potence/api"
)

// row is a sum of notes: the places that it has, a bit for each; 1 if it is odd; and the notes, a bit for each, by their indices.
type row [3]uint64

// What the numbers of a row are.
const (
	itsPlaces = iota
	isOdd
	itsNotes
)

// rowOf returns the row of a note alone, which it does not name.
func rowOf(n api.Note) row {
	var r row
	for _, p := range n.Places {
		r[itsPlaces] |= 1 << p
	}
	if n.Odd {
		r[isOdd] = 1
	}
	return r
}

// adding returns what adds rows to a row.
func adding(sum *row) func(r row) {
	return func(r row) {
		for i, x := range r {
			sum[i] ^= x
		}
	}
}

// has says whether a row has a place.
func (r row) has(place int) bool { return r[itsPlaces]>>place&1 == 1 }

// odd says whether a row is odd.
func (r row) odd() bool { return r[isOdd] == 1 }

// fits says whether notches, a bit for each place that is notched, fit what a row says.
func (r row) fits(notched uint64) bool {
	return bits.OnesCount64(notched&r[itsPlaces])%2 == int(r[isOdd])
}

// marks returns notches as bits, the first place as the least one.
func marks(notched []bool) uint64 {
	var x uint64
	for p, is := range notched {
		if is {
			x |= 1 << p
		}
	}
	return x
}

// notches returns the notches of so many places that bits tell.
func notches(x uint64, places int) []bool {
	var all [api.MaxNotches]bool
	for p := range all {
		all[p] = x>>p&1 == 1
	}
	notched := make([]bool, places)
	copy(notched, all[:])
	return notched
}
