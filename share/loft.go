package share

import (
	"iter"
	"slices"

	"potence/api"
)

// downward yields the numbers below n, the greatest one first: the indices of perches, those within a perch before it.
func downward(n int) iter.Seq[int] {
	return func(yield func(int) bool) {
		for i := range n {
			if !yield(n - 1 - i) {
				return
			}
		}
	}
}

// inside yields the perches (their indices) that lie in one directly.
func inside(l api.Loft, at int) iter.Seq[int] {
	return func(yield func(int) bool) {
		for i := at + 1; i < len(l.Perches); i++ {
			if l.Perches[i].Above == at && !yield(i) {
				return
			}
		}
	}
}

// upward yields a perch, the one in which it lies, and so on up to the first one.
func upward(l api.Loft, at int) iter.Seq[int] {
	return func(yield func(int) bool) {
		for at >= 0 && yield(at) {
			at = l.Perches[at].Above
		}
	}
}

// isHole says whether no other perch lies in one.
func isHole(l api.Loft, at int) bool {
	for range inside(l, at) {
		return false
	}
	return true
}

// holes yields the perches in which no other one lies.
func holes(l api.Loft) iter.Seq[int] {
	return func(yield func(int) bool) {
		for at := range l.Perches {
			if isHole(l, at) && !yield(at) {
				return
			}
		}
	}
}

// places returns the indices of a loft's perches by their IDs.
func places(l api.Loft) map[int]int {
	at := map[int]int{}
	for i, p := range l.Perches {
		at[p.ID] = i
	}
	return at
}

// isAllowed says whether a number is from the Least to the Most of a perch.
func isAllowed(p api.Perch, n int) bool { return p.Least <= n && n <= p.Most }

// isSum says whether a perch gives what those give that lie in it, or, if it is a hole, no more than it has Worths.
func isSum(l api.Loft, given []int, at int) bool {
	if isHole(l, at) {
		return given[at] <= len(l.Perches[at].Worths)
	}
	sum := 0
	for i := range inside(l, at) {
		sum += given[i]
	}
	return sum == given[at]
}

// isTaking says whether a list is a taking.
func isTaking(l api.Loft, given []int) bool {
	if len(given) != len(l.Perches) {
		return false
	}
	for at, p := range l.Perches {
		if !isAllowed(p, given[at]) {
			return false
		}
	}
	// Sums are looked at only now that no number is too great to be added.
	for at := range l.Perches {
		if !isSum(l, given, at) {
			return false
		}
	}
	return true
}

// worthOf returns what a taking is worth.
func worthOf(l api.Loft, given []int) int {
	sum := 0
	for at := range holes(l) {
		for _, w := range l.Perches[at].Worths[:given[at]] {
			sum += w
		}
	}
	return sum
}

// copied returns a loft in new memory.
func copied(l api.Loft) api.Loft {
	perches := slices.Clone(l.Perches)
	for i, p := range perches {
		perches[i].Worths = slices.Clone(p.Worths)
	}
	return api.Loft{Perches: perches}
}

// with returns a loft, in new memory, in which a perch gives other numbers.
func with(l api.Loft, at int, s api.Span) api.Loft {
	other := copied(l)
	other.Perches[at].Least, other.Perches[at].Most = s.Lo, s.Hi
	return other
}

// With returns a loft in which a perch gives other numbers.
func With(l api.Loft, perch int, s api.Span) (api.Loft, api.Errno) {
	at, e := find(l, perch)
	if e != api.OK {
		return api.Loft{}, e
	}
	if !isNumbers(s) {
		return api.Loft{}, api.ErrArg
	}
	return with(l, at, s), api.OK
}

// Without returns a loft without a perch, and all within it.
func Without(l api.Loft, perch int) (api.Loft, api.Errno) {
	at, e := find(l, perch)
	if e != api.OK {
		return api.Loft{}, e
	}
	if at == 0 {
		return api.Loft{}, api.ErrArg
	}
	left := places(l)
	delete(left, perch)
	var less api.Loft
	for _, p := range copied(l).Perches {
		if p.Above >= 0 {
			above, is := left[l.Perches[p.Above].ID]
			if !is {
				delete(left, p.ID)
			}
			p.Above = above
		}
		if _, is := left[p.ID]; is {
			left[p.ID] = len(less.Perches) // where those within it find it
			less.Perches = append(less.Perches, p)
		}
	}
	return less, api.OK
}
