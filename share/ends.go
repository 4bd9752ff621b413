package share

import (
	"sort"

	"potence/api"
)

// asked returns the plan of a loft, and the index of a perch, or the first error of it with a perch and so many birds.
func asked(l api.Loft, birds, perch int) (plan, int, api.Errno) {
	at, e := find(l, perch)
	if e != api.OK {
		return nil, 0, e
	}
	p, e := plannedFor(l, birds)
	return p, at, e
}

// ends returns the least and the greatest number that a perch gives in best takings with so many birds. Each number between is given in one, too, so that the ends can be searched by halves.
func ends(l api.Loft, p plan, birds, at int) api.Span {
	isGiven := func(n int) bool {
		house := newPlan(with(l, at, api.Span{Lo: n, Hi: n}))[0]
		return house.has(birds) && house.worth(birds) == p[0].worth(birds)
	}
	n, own := p.given(birds)[at], p[at].span()
	less := sort.Search(n-own.Lo, func(i int) bool { return !isGiven(n - i - 1) })
	more := sort.Search(own.Hi-n, func(i int) bool { return !isGiven(n + i + 1) })
	return api.Span{Lo: n - less, Hi: n + more}
}

// Ends returns how many birds a perch gives at least and at most if so many are worth most.
func Ends(l api.Loft, birds, perch int) (api.Span, api.Errno) {
	p, at, e := asked(l, birds, perch)
	if e != api.OK {
		return api.Span{}, e
	}
	return ends(l, p, birds, at), api.OK
}

// Gives returns the holes that surely give a bird if so many are worth most, and those that possibly do.
func Gives(l api.Loft, birds int) ([]int, []int, api.Errno) {
	p, e := plannedFor(l, birds)
	if e != api.OK {
		return nil, nil, e
	}
	var all, some []int
	for at := range holes(l) {
		s := ends(l, p, birds, at)
		if s.Lo > 0 {
			all = append(all, l.Perches[at].ID)
		}
		if s.Hi > 0 {
			some = append(some, l.Perches[at].ID)
		}
	}
	return all, some, api.OK
}

// gain returns by how much so many birds are worth more if a perch gives other numbers.
func gain(l api.Loft, p plan, birds, at int, s api.Span) int {
	return newPlan(with(l, at, s))[0].worth(birds) - p[0].worth(birds)
}

// Cap returns by how much birds are worth more if a perch may give one more.
func Cap(l api.Loft, birds, perch int) (int, api.Errno) {
	p, at, e := asked(l, birds, perch)
	if e != api.OK {
		return 0, e
	}
	s := api.Span{Lo: l.Perches[at].Least, Hi: l.Perches[at].Most + 1}
	if s.Hi > api.MaxFlock {
		return 0, api.ErrLimit
	}
	return gain(l, p, birds, at, s), api.OK
}

// Floor returns by how much birds are worth more if a perch must give one less.
func Floor(l api.Loft, birds, perch int) (int, api.Errno) {
	p, at, e := asked(l, birds, perch)
	if e != api.OK {
		return 0, e
	}
	s := api.Span{Lo: l.Perches[at].Least - 1, Hi: l.Perches[at].Most}
	if s.Lo < 0 {
		return 0, api.ErrNone
	}
	return gain(l, p, birds, at, s), api.OK
}
