package rings

import (
	"cmp"
	"slices"

	"potence/api"
)

// set keeps things in order, none of them twice.
type set[T any] struct {
	compare func(a, b T) int
	list    []T
}

// idSet returns an empty set of IDs.
func idSet() set[int] { return set[int]{compare: cmp.Compare[int]} }

// nextSet returns an empty set of pairs of IDs.
func nextSet() set[api.Next] {
	return set[api.Next]{compare: func(a, b api.Next) int {
		return cmp.Or(cmp.Compare(a.Before, b.Before), cmp.Compare(a.After, b.After))
	}}
}

// add puts a thing into a set, if it is not there yet.
func (s *set[T]) add(x T) {
	if i, is := slices.BinarySearchFunc(s.list, x, s.compare); !is {
		s.list = slices.Insert(s.list, i, x)
	}
}

// isIncreasing says whether each of some numbers is greater than the one before it.
func isIncreasing(numbers []int) bool {
	for i := 1; i < len(numbers); i++ {
		if numbers[i] <= numbers[i-1] {
			return false
		}
	}
	return true
}

// joined returns all elements of some lists in one list, in new memory.
func joined[T any](lists ...[]T) []T {
	size := 0
	for _, l := range lists {
		size += len(l)
	}
	all := make([]T, size)
	at := 0
	for _, l := range lists {
		at += copy(all[at:], l)
	}
	return all
}
