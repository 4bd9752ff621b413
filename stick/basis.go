package stick

import (
	"cmp"
	"iter"
	"math/bits"
	"slices"

	"potence/api"
)

// basis is what the notes of a stick say together.
//
// The rows are sums of notes none of which follows from the others, each one at its last place, which no other row has, so that it is told by places ahead of it that can be chosen. At the other places there is a row of nothing. The rests are the sums without places: of each note that follows from some of those, or contradicts them, and just these.
type basis struct {
	stick api.Stick
	rows  [api.MaxNotches]row
	rests []row
}

// newBasis returns the basis of a stick, which must have no errors but that it may have a note too many.
func newBasis(s api.Stick) *basis {
	b := &basis{stick: s}
	for i, n := range s.Notes {
		r := rowOf(n)
		r[itsNotes] = 1 << i
		b.take(r)
	}
	return b
}

// rest returns what remains of a row when all rows at its places have been added to it.
func (b *basis) rest(r row) row {
	sum := r
	add := adding(&sum)
	for p, x := range b.rows {
		if r.has(p) {
			add(x)
		}
	}
	return sum
}

// take puts what a row says besides the others into a basis.
func (b *basis) take(r row) {
	rest := b.rest(r)
	if rest[itsPlaces] == 0 {
		b.rests = append(b.rests, rest)
		return
	}
	last := bits.Len64(rest[itsPlaces]) - 1
	for p := range b.rows {
		if b.rows[p].has(last) {
			adding(&b.rows[p])(rest)
		}
	}
	b.rows[last] = rest
}

// clash returns a contradiction of which no smaller part is one, or false if the notes agree. All of its notes but one have made a row each, and no sum of such notes is without places; so none of a part of it is, either.
func (b *basis) clash() (row, bool) {
	for _, r := range b.rests {
		if r.odd() {
			return r, true
		}
	}
	return row{}, false
}

// agreed returns the basis of a stick, or the first error of it, or that the notes do not agree.
func agreed(s api.Stick) (*basis, api.Errno) {
	if e := Check(s); e != api.OK {
		return nil, e
	}
	b := newBasis(s)
	if _, is := b.clash(); is {
		return nil, api.ErrClash
	}
	return b, api.OK
}

// told returns the sum of those notes that tell whether an odd number of some places is notched, or false if none do.
func (b *basis) told(places ...int) (row, bool) {
	r := b.rest(rowOf(api.Note{Places: places}))
	if r[itsPlaces] != 0 {
		return row{}, false
	}
	return r, true
}

// ids returns the IDs of the notes of a sum, in increasing order.
func (b *basis) ids(r row) []int {
	var ids []int
	for i, n := range b.stick.Notes {
		if r[itsNotes]>>i&1 == 1 {
			ids = append(ids, n.ID)
		}
	}
	slices.Sort(ids)
	return ids
}

// free returns the places that can be chosen, as bits. They are also the first ones that one must look at: any other place is told by those ahead of it.
func (b *basis) free() uint64 {
	var free uint64
	for p, r := range b.rows[:b.stick.Places] {
		if r == (row{}) {
			free |= 1 << p
		}
	}
	return free
}

// fit returns the notches that fit, if just these are notched of the places that can be chosen.
func (b *basis) fit(chosen uint64) uint64 {
	x := chosen
	for p, r := range b.rows {
		if !r.fits(chosen) {
			x |= 1 << p
		}
	}
	return x
}

// all yields all notches that fit.
func (b *basis) all() iter.Seq[uint64] {
	return func(yield func(uint64) bool) {
		free := b.free()
		for chosen := uint64(0); yield(b.fit(chosen)); {
			// What is carried runs through all bits that are not free, so that the free ones count on alone, up to none again.
			chosen = (chosen - free) & free
			if chosen == 0 {
				return
			}
		}
	}
}

// inOrder compares notches as lists: the first place counts most.
func inOrder(a, b uint64) int { return cmp.Compare(bits.Reverse64(a), bits.Reverse64(b)) }

// first returns the first one of those that are yielded to which none compares as less, and whether any is yielded.
func first[T any](all iter.Seq[T], compare func(a, b T) int) (T, bool) {
	var least T
	is := false
	for x := range all {
		if !is || compare(x, least) < 0 {
			least, is = x, true
		}
	}
	return least, is
}
