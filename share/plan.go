package share

import "potence/api"

// spot is a perch with what it can give by itself alone.
type spot struct {
	curve
	// all is what it could give if its own Least and Most did not matter.
	all curve
	// above is the index of the perch in which it lies, or -1.
	above int
}

// plan is what the perches of a loft can give, in its order.
type plan []spot

// newPlan returns the plan of a loft, which must have no errors.
func newPlan(l api.Loft) plan {
	p := make(plan, len(l.Perches))
	for at := range downward(len(p)) {
		perch := l.Perches[at]
		var all curve
		for _, w := range perch.Worths {
			all.birds = append(all.birds, bird{w, at})
		}
		for i := range inside(l, at) {
			all = all.and(p[i].curve)
		}
		p[at] = spot{all.within(api.Span{Lo: perch.Least, Hi: perch.Most}), all, perch.Above}
	}
	return p
}

// planned returns the plan of a loft, or its first error, or that there is no taking.
func planned(l api.Loft) (plan, api.Errno) {
	if e := Check(l); e != api.OK {
		return nil, e
	}
	p := newPlan(l)
	if p[0].isNothing() {
		return nil, api.ErrClash
	}
	return p, api.OK
}

// plannedFor returns the plan of a loft, or the first error of it with so many birds.
func plannedFor(l api.Loft, birds int) (plan, api.Errno) {
	p, e := planned(l)
	if e != api.OK {
		return nil, e
	}
	if !p[0].has(birds) {
		return nil, api.ErrArg
	}
	return p, api.OK
}

// given returns how many birds each perch gives in a best taking with so many.
func (p plan) given(birds int) []int {
	given := make([]int, len(p))
	for _, b := range p[0].birds[:birds] {
		given[b.hole]++
	}
	for at := range downward(len(p)) {
		if at > 0 {
			given[p[at].above] += given[at]
		}
	}
	return given
}

// prices returns prices that prove that a best taking is one. Each price is that of the perch above, if the birds of those within allow it, or else the nearest one that they allow: it is not allowed only where the perch's own Most, or its Least, keeps it from giving more, or less.
func (p plan) prices(given []int) []int {
	prices := make([]int, len(p))
	for at, s := range p {
		price := 0
		if at > 0 {
			price = prices[s.above]
		}
		ends := s.all.prices(given[at])
		prices[at] = min(max(price, ends.Lo), ends.Hi)
	}
	return prices
}

// taken returns a best taking, of which is told what each perch gives.
func (p plan) taken(given []int) api.Taken {
	return api.Taken{Given: given, Worth: p[0].worth(given[0]), Prices: p.prices(given)}
}
