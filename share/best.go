package share

import (
	"slices"

	"potence/api"
)

// Worths returns what birds are worth at most, for each number that a loft can give.
func Worths(l api.Loft) ([]int, api.Errno) {
	p, e := planned(l)
	if e != api.OK {
		return nil, e
	}
	house := p[0].span()
	var worths []int
	for n := house.Lo; n <= house.Hi; n++ {
		worths = append(worths, p[0].worth(n))
	}
	return worths, api.OK
}

// Best returns how so many birds are worth most.
func Best(l api.Loft, birds int) (api.Taken, api.Errno) {
	p, e := plannedFor(l, birds)
	if e != api.OK {
		return api.Taken{}, e
	}
	return p.taken(p.given(birds)), api.OK
}

// isPrice says whether a hole that gives so many birds can have a price.
func isPrice(p api.Perch, given, price int) bool {
	if given > 0 && p.Worths[given-1] < price {
		return false
	}
	return given == len(p.Worths) || p.Worths[given] <= price
}

// isProof says whether prices prove that a taking is a best one.
func isProof(l api.Loft, given, prices []int) bool {
	if len(prices) != len(l.Perches) {
		return false
	}
	for at, p := range l.Perches {
		price := prices[at]
		if price < -maxPrice || price > maxPrice {
			return false
		}
		if at > 0 && price > prices[p.Above] && given[at] != p.Most {
			return false
		}
		if at > 0 && price < prices[p.Above] && given[at] != p.Least {
			return false
		}
	}
	for at := range holes(l) {
		if !isPrice(l.Perches[at], given[at], prices[at]) {
			return false
		}
	}
	return true
}

// CheckBest returns OK if prices prove that as many birds are never worth more.
func CheckBest(l api.Loft, t api.Taken) api.Errno {
	if e := Check(l); e != api.OK {
		return e
	}
	if !isTaking(l, t.Given) || t.Worth != worthOf(l, t.Given) || !isProof(l, t.Given, t.Prices) {
		return api.ErrProof
	}
	return api.OK
}

// Further returns what a further bird is worth.
func Further(l api.Loft, birds int) (int, api.Errno) {
	p, e := plannedFor(l, birds)
	if e != api.OK {
		return 0, e
	}
	if !p[0].has(birds + 1) {
		return 0, api.ErrNone
	}
	return p[0].birds[birds].worth, api.OK
}

// Peak returns how many birds are worth most.
func Peak(l api.Loft) (api.Span, int, api.Errno) {
	p, e := planned(l)
	if e != api.OK {
		return api.Span{}, 0, e
	}
	s := api.Span{Lo: p[0].least, Hi: p[0].least}
	for _, b := range p[0].birds[p[0].least:] {
		if b.worth > 0 {
			s.Lo++
		}
		if b.worth >= 0 {
			s.Hi++
		}
	}
	return s, p[0].worth(s.Lo), api.OK
}

// changed returns a hole, and the best taking that a best taking becomes if this one gives so many birds more, which is one or less one. There is such a hole if there is a taking with as many birds at all: of the best ones, the one that differs least from t differs in one hole alone, or else both could trade a bird at no loss, and would differ less.
func changed(l api.Loft, t api.Taken, by int) (int, api.Taken, api.Errno) {
	if e := CheckBest(l, t); e != api.OK {
		return 0, api.Taken{}, e
	}
	p := newPlan(l)
search:
	for hole := range holes(l) {
		given := slices.Clone(t.Given)
		for at := range upward(l, hole) {
			given[at] += by
			if !isAllowed(l.Perches[at], given[at]) {
				continue search
			}
		}
		if isSum(l, given, hole) && worthOf(l, given) == p[0].worth(given[0]) {
			return l.Perches[hole].ID, p.taken(given), api.OK
		}
	}
	return 0, api.Taken{}, api.ErrNone
}

// Add returns the hole that gives a further bird.
func Add(l api.Loft, t api.Taken) (int, api.Taken, api.Errno) { return changed(l, t, 1) }

// Drop returns the hole that gives a bird less.
func Drop(l api.Loft, t api.Taken) (int, api.Taken, api.Errno) { return changed(l, t, -1) }
