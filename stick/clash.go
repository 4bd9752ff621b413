package stick

import (
	"iter"
	"slices"

	"potence/api"
)

// sumOf returns the sum of notes of a stick with some IDs.
func sumOf(s api.Stick, ids []int) row {
	var r row
	add := adding(&r)
	for n := range picked(s, ids, true) {
		add(rowOf(n))
	}
	return r
}

// CheckShows returns OK if notes show whether a place is notched.
func CheckShows(s api.Stick, place int, notched bool, ids []int) api.Errno {
	if e := checkPlaces(s, place); e != api.OK {
		return e
	}
	if e := checkIDs(s, ids); e != api.OK {
		return e
	}
	if sumOf(s, ids) != rowOf(api.Note{Places: []int{place}, Odd: notched}) {
		return api.ErrProof
	}
	return api.OK
}

// Clash returns notes that contradict each other.
func Clash(s api.Stick) ([]int, bool, api.Errno) {
	if e := Check(s); e != api.OK {
		return nil, false, e
	}
	b := newBasis(s)
	r, is := b.clash()
	return b.ids(r), is, api.OK
}

// CheckClash returns OK if notes contradict each other.
func CheckClash(s api.Stick, ids []int) api.Errno {
	if e := checkIDs(s, ids); e != api.OK {
		return e
	}
	if sumOf(s, ids) != rowOf(api.Note{Odd: true}) {
		return api.ErrProof
	}
	return api.OK
}

// fault is that the note with an ID is wrong: a bit for each of the rests that it stands in.
type fault struct {
	id  int
	has uint64
}

// faults returns the fault of each note, by ID, and the rests that are odd, as bits. If the notes are turned round of some faults, each rest changes that has an odd number of them; so these can be all that are wrong just if what they have adds up to what is odd.
func (b *basis) faults() ([]fault, uint64) {
	var all []fault
	var odd uint64
	for i, n := range b.stick.Notes {
		f := fault{id: n.ID}
		for j, r := range b.rests {
			f.has |= (r[itsNotes] >> i & 1) << j
		}
		all = append(all, f)
	}
	for j, r := range b.rests {
		odd |= r[isOdd] << j
	}
	slices.SortFunc(all, func(x, y fault) int { return x.id - y.id })
	return all, odd
}

// those returns the IDs of faults of which something is so.
func those(all []fault, is func(f fault) bool) []int {
	var ids []int
	for _, f := range all {
		if is(f) {
			ids = append(ids, f.id)
		}
	}
	return ids
}

// Suspects returns the notes without each of which the others agree.
func Suspects(s api.Stick) ([]int, api.Errno) {
	if e := Check(s); e != api.OK {
		return nil, e
	}
	all, odd := newBasis(s).faults()
	return those(all, func(f fault) bool { return odd != 0 && f.has == odd }), api.OK
}

// Idle returns the notes without each of which the same notches fit: those that stand in a sum without places, and so follow from the others in it.
func Idle(s api.Stick) ([]int, api.Errno) {
	b, e := agreed(s)
	if e != api.OK {
		return nil, e
	}
	all, _ := b.faults()
	return those(all, func(f fault) bool { return f.has != 0 }), api.OK
}

// sets yields all lists of so many of some faults, in order, and what the faults of each one have together.
func sets(all []fault, size int) iter.Seq2[[]int, uint64] {
	return func(yield func([]int, uint64) bool) {
		if size == 0 {
			yield(nil, 0)
			return
		}
		for i, f := range all {
			for ids, has := range sets(all[i+1:], size-1) {
				if !yield(slices.Concat([]int{f.id}, ids), has^f.has) {
					return
				}
			}
		}
	}
}

// Fewest returns the fewest notes without which the others agree.
func Fewest(s api.Stick) ([]int, api.Errno) {
	if e := Check(s); e != api.OK {
		return nil, e
	}
	all, odd := newBasis(s).faults()
	var fewest []int
	e := api.ErrLimit
search:
	for size := range api.MaxFaults + 1 {
		for ids, has := range sets(all, size) {
			if has == odd {
				fewest, e = ids, api.OK
				break search
			}
		}
	}
	return fewest, e
}
