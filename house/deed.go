package house

import (
	"cmp"
	"iter"
	"slices"

	"potence/api"
)

// CheckDeeds returns the first error of deeds.
func CheckDeeds(c api.Cote, l []api.Deed) api.Errno {
	if e := CheckCote(c); e != api.OK {
		return e
	}
	if len(l) > api.MaxDeeds {
		return api.ErrLimit
	}
	written := map[int]bool{}
	for _, d := range l {
		if !isDeed(c, d) {
			return api.ErrForm
		}
		if written[d.ID] {
			return api.ErrTwice
		}
		written[d.ID] = true
	}
	return api.OK
}

// checkKnown returns the first error of deeds with a day of knowing.
func checkKnown(c api.Cote, l []api.Deed, known int) api.Errno {
	e := CheckDeeds(c, l)
	if e == api.OK && !isFrom(0, known, api.MaxDay) {
		return api.ErrArg
	}
	return e
}

// standing yields the deeds that stand, as known on a day, by ID.
func standing(l []api.Deed, known int) iter.Seq[api.Deed] {
	return func(yield func(api.Deed) bool) {
		withdrawn := map[int]bool{}
		for _, d := range l {
			if d.Kind == api.DeBack && d.Known <= known {
				withdrawn[d.Ref] = true
			}
		}
		for _, d := range slices.SortedFunc(slices.Values(l), func(a, b api.Deed) int { return cmp.Compare(a.ID, b.ID) }) {
			stands := d.Kind != api.DeBack && d.Known <= known && !withdrawn[d.ID]
			if stands && !yield(d) {
				return
			}
		}
	}
}

// told returns what deeds tell, in their order, of which some tell nothing.
func told[T any](deeds iter.Seq[api.Deed], tells func(d api.Deed) (T, bool)) []T {
	var l []T
	for d := range deeds {
		if x, is := tells(d); is {
			l = append(l, x)
		}
	}
	return l
}

// Standing returns the deeds that stand, as known on a day.
func Standing(c api.Cote, l []api.Deed, known int) ([]api.Deed, api.Errno) {
	if e := checkKnown(c, l, known); e != api.OK {
		return nil, e
	}
	return slices.Collect(standing(l, known)), api.OK
}

// place returns of which hole, and of which day, a deed tells what was in it, or taken out; false if it does not.
func place(d api.Deed) (hole, day int, is bool) {
	switch d.Kind {
	case api.DePeep:
		d.Day = d.Peep.Day
		fallthrough
	case api.DeTake:
		return d.Hole, d.Day, true
	}
	return 0, 0, false
}

// Holes returns the holes of which something is known from a day on.
func Holes(c api.Cote, l []api.Deed, from, known int) ([]int, api.Errno) {
	if e := checkKnown(c, l, known); e != api.OK {
		return nil, e
	}
	if !isFrom(0, from, api.MaxDay) {
		return nil, api.ErrArg
	}
	holes := told(standing(l, known), func(d api.Deed) (int, bool) {
		hole, day, is := place(d)
		return hole, is && day >= from
	})
	slices.Sort(holes)
	return slices.Compact(holes), api.OK
}
