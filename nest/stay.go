package nest

import "potence/api"

// spans returns numbers, which are in increasing order, as the fewest spans.
func spans(list []int) []api.Span {
	var all []api.Span
	for i, n := range list {
		if i > 0 && n == list[i-1]+1 {
			all[len(all)-1].Hi = n
			continue
		}
		all = append(all, api.Span{Lo: n, Hi: n})
	}
	return all
}

// staysOf returns the stays that stand for states, which are in order.
func staysOf(states []state) []api.Stay {
	var stays []api.Stay
	for len(states) > 0 {
		phase := states[0].phase
		var ages []int
		for len(states) > 0 && states[0].phase == phase {
			ages = append(ages, states[0].age)
			states = states[1:]
		}
		stays = append(stays, api.Stay{Phase: phase, Ages: spans(ages)})
	}
	return stays
}

// allStays returns the stays of each day.
func allStays(days [][]state) [][]api.Stay {
	all := make([][]api.Stay, len(days))
	for day, states := range days {
		all[day] = staysOf(states)
	}
	return all
}

// areAges says whether spans are right as those of the ages of a stay.
func areAges(ages []api.Span, ripe int) bool {
	least := 1
	for _, s := range ages {
		if s.Lo < least || s.Lo > s.Hi || s.Hi > ripe {
			return false
		}
		least = s.Hi + 2
	}
	return len(ages) > 0
}

// statesOf returns the states for which stays stand, and whether they are right.
func (c *course) statesOf(stays []api.Stay) ([]state, bool) {
	var states []state
	least := 0
	for _, x := range stays {
		if x.Phase < least || x.Phase >= len(c.stages) || !areAges(x.Ages, c.stages[x.Phase].ripe) {
			return nil, false
		}
		for _, s := range x.Ages {
			for age := s.Lo; age <= s.Hi; age++ {
				states = append(states, state{x.Phase, age})
			}
		}
		least = x.Phase + 1
	}
	return states, true
}

// refutes says whether stays are a contradiction: what can be on a day is among its stays, and nothing can be on the last one.
func (c *course) refutes(l [][]api.Stay) bool {
	if len(l) == 0 || len(l) > len(c.days) || len(l[len(l)-1]) > 0 {
		return false
	}
	has := map[state]bool{}
	var before []state
	for day, stays := range l {
		states, ok := c.statesOf(stays)
		if !ok {
			return false
		}
		clear(has)
		for _, s := range states {
			has[s] = true
		}
		for s := range c.coming(before, day) {
			if !has[s] {
				return false
			}
		}
		before = states
	}
	return true
}

// Reach returns what a nest can be in on each day, by what is known up to it.
func Reach(n api.Nest) ([][]api.Stay, api.Errno) {
	if e := Check(n); e != api.OK {
		return nil, e
	}
	return allStays(newCourse(n).reached()), api.OK
}

// Contradiction returns what shows that no life is possible.
func Contradiction(n api.Nest) ([][]api.Stay, bool, api.Errno) {
	if e := Check(n); e != api.OK {
		return nil, false, e
	}
	days := newCourse(n).reached()
	empty := firstEmpty(days)
	if empty < 0 {
		return nil, false, api.OK
	}
	return allStays(days[:empty+1]), true, api.OK
}

// areTooMany says whether stays are more than a limit allows.
func areTooMany(l [][]api.Stay) bool {
	if len(l) > api.MaxDays+1 {
		return true
	}
	for _, stays := range l {
		if len(stays) > api.MaxPhases {
			return true
		}
		for _, x := range stays {
			if len(x.Ages) > api.MaxStay {
				return true
			}
		}
	}
	return false
}

// CheckContradiction returns OK if stays show that no life is possible.
func CheckContradiction(n api.Nest, l [][]api.Stay) api.Errno {
	if e := Check(n); e != api.OK {
		return e
	}
	if areTooMany(l) {
		return api.ErrLimit
	}
	if !newCourse(n).refutes(l) {
		return api.ErrProof
	}
	return api.OK
}
