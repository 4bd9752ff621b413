package house

import (
	"slices"

	"potence/api"
	"potence/nest"
	"potence/right"
	"potence/rings"
	"potence/round"
	"potence/share"
)

// The functions Without of the layers below return, without nothing, what they are given: in new memory, and with its first error.

// NestOf returns what is known of a hole.
func NestOf(c api.Cote, l []api.Deed, hole, known int) (api.Nest, api.Errno) {
	if e := checkKnown(c, l, known); e != api.OK {
		return api.Nest{}, e
	}
	if !isFrom(0, hole, boundsOf(c).hole) {
		return api.Nest{}, api.ErrArg
	}
	n := api.Nest{Breed: c.Breed, Last: c.Last}
	n.Peeps = told(standing(l, known), func(d api.Deed) (api.Peep, bool) {
		d.Peep.ID = d.ID
		return d.Peep, d.Kind == api.DePeep && d.Hole == hole
	})
	n.Takings = told(standing(l, known), func(d api.Deed) (api.Taking, bool) {
		return api.Taking{ID: d.ID, Day: d.Day}, d.Kind == api.DeTake && d.Hole == hole
	})
	return nest.Without(n, nil)
}

// RollOf returns the birds that were seen.
func RollOf(c api.Cote, l []api.Deed, known int) (api.Roll, api.Errno) {
	if e := checkKnown(c, l, known); e != api.OK {
		return api.Roll{}, e
	}
	r := api.Roll{Moves: c.Moves}
	r.Seen = told(standing(l, known), func(d api.Deed) (api.Seen, bool) {
		d.Seen.ID = d.ID
		return d.Seen, d.Kind == api.DeSeen
	})
	return checked(r, rings.Check(r))
}

// CodeOf returns the rights, with what is known.
func CodeOf(c api.Cote, l []api.Deed, known int) (api.Code, api.Errno) {
	if e := checkKnown(c, l, known); e != api.OK {
		return api.Code{}, e
	}
	facts := told(standing(l, known), func(d api.Deed) (api.Fact, bool) {
		return api.Fact{Claim: d.Claim, Days: d.Days, Known: d.Known}, d.Kind == api.DeFact
	})
	return right.Without(api.Code{Facts: slices.Concat(c.Code.Facts, facts), Rules: c.Code.Rules}, nil)
}

// ringPerch returns the perch of a ring.
func ringPerch(c api.Cote, ring int) api.Perch {
	return api.Perch{ID: 2 + ring, Above: 0, Most: c.RingsTo}
}

// holePerch returns the perch, in another one, of a hole in which there surely are so many squabs.
func holePerch(c api.Cote, hole, above, squabs int) api.Perch {
	worths := slices.Clone(c.Worths[:min(squabs, len(c.Worths))])
	return api.Perch{ID: 100 + hole, Above: above, Most: len(worths), Worths: worths}
}

// squabsOf returns how many squabs there surely are in a hole on a day.
func squabsOf(c api.Cote, l []api.Deed, hole, day, known int) (int, api.Errno) {
	n, e := NestOf(c, l, hole, known)
	if e != api.OK {
		return 0, e
	}
	x, e := nest.Ends(n, api.NsSquabs, day)
	return x.Span.Lo, e
}

// LoftOf returns what can be taken on a day.
func LoftOf(c api.Cote, l []api.Deed, day, known int) (api.Loft, api.Errno) {
	holes, e := Holes(c, l, 0, known)
	if e != api.OK {
		return api.Loft{}, e
	}
	if !isFrom(0, day, c.Last) {
		return api.Loft{}, api.ErrArg
	}
	perches := []api.Perch{{ID: 1, Above: -1, Most: c.Most}}
	at := map[int]int{} // where the perch of a ring stands
	for _, hole := range holes {
		ring, _ := round.Ring(c.House, hole)
		if _, is := at[ring]; !is {
			at[ring] = len(perches)
			perches = append(perches, ringPerch(c, ring)) // in increasing order, as the holes are
		}
	}
	for _, hole := range holes {
		squabs, e := squabsOf(c, l, hole, day, known)
		if e != api.OK {
			return api.Loft{}, e
		}
		ring, _ := round.Ring(c.House, hole)
		perches = append(perches, holePerch(c, hole, at[ring], squabs))
	}
	loft := api.Loft{Perches: perches}
	return checked(loft, share.Check(loft))
}
