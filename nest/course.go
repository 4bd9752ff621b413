package nest

import (
	"iter"
	"slices"

	"potence/api"
)

// numbers are how many eggs, squabs and old birds there are.
type numbers [3]int

// numbersOf returns the numbers of a phase.
func numbersOf(p api.Phase) numbers {
	return numbers{api.NsEggs: p.Eggs, api.NsSquabs: p.Squabs, api.NsOld: p.Old}
}

// lie says whether numbers lie in the spans of a look.
func (n numbers) lie(p api.Peep) bool {
	for what, s := range p.Numbers {
		if n[what] < s.Lo || n[what] > s.Hi {
			return false
		}
	}
	return true
}

// state is a phase, and its age in days; a phase that lasts for any number of days is of its ripe age from then on.
type state struct{ phase, age int }

// stage is an api.Phase with the changes that lead from it.
type stage struct {
	numbers
	least, ripe int
	lasts       bool // for any number of days
	changes     []api.Change
}

// moment is a day: whether there is a taking behind it, and which phases cannot be on it.
type moment struct {
	taken bool
	no    [api.MaxPhases]bool
}

// course is how the states of a nest can follow each other.
type course struct {
	stages []stage
	days   []moment
}

// newCourse returns the course of a nest that is right.
func newCourse(n api.Nest) *course {
	c := &course{days: make([]moment, n.Last+1)}
	for _, p := range n.Breed.Phases {
		s := stage{numbers: numbersOf(p), least: p.Least, ripe: p.Most}
		if p.Most == 0 {
			s.ripe, s.lasts = p.Least, true
		}
		c.stages = append(c.stages, s)
	}
	for _, x := range n.Breed.Changes {
		s := &c.stages[x.From]
		s.changes = append(s.changes, x)
	}
	for _, t := range n.Takings {
		c.days[t.Day].taken = true
	}
	for _, p := range n.Peeps {
		c.narrow(p.Day, func(phase int) bool { return c.stages[phase].lie(p) })
	}
	return c
}

// narrow lets none but some phases be on a day.
func (c *course) narrow(day int, can func(phase int) bool) {
	for phase := range c.stages {
		if !can(phase) {
			c.days[day].no[phase] = true
		}
	}
}

// last returns the last day.
func (c *course) last() int { return len(c.days) - 1 }

// states yields all states, by their phases and then by their ages.
func (c *course) states() iter.Seq[state] {
	return func(yield func(state) bool) {
		for phase, s := range c.stages {
			for age := 1; age <= s.ripe; age++ {
				if !yield(state{phase, age}) {
					return
				}
			}
		}
	}
}

// older returns the state a day later of a nest that stays in a phase, if it can.
func (c *course) older(s state) (state, bool) {
	now := c.stages[s.phase]
	if s.age == now.ripe {
		return s, now.lasts
	}
	return state{s.phase, s.age + 1}, true
}

// next yields the next states of a state on a day.
func (c *course) next(day int, s state) iter.Seq[state] {
	return func(yield func(state) bool) {
		taken := c.days[day].taken
		if t, ok := c.older(s); ok && !taken && !yield(t) {
			return
		}
		if s.age < c.stages[s.phase].least {
			return
		}
		for _, x := range c.stages[s.phase].changes {
			if x.Taken == taken && !yield(state{x.To, 1}) {
				return
			}
		}
	}
}

// following yields all states on the day 0, and on another day the next ones of the states before, also more than once.
func (c *course) following(before []state, day int) iter.Seq[state] {
	if day == 0 {
		return c.states()
	}
	return func(yield func(state) bool) {
		for _, s := range before {
			for t := range c.next(day-1, s) {
				if !yield(t) {
					return
				}
			}
		}
	}
}

// coming yields those states of following that can be on the day.
func (c *course) coming(before []state, day int) iter.Seq[state] {
	return func(yield func(state) bool) {
		for s := range c.following(before, day) {
			if !c.days[day].no[s.phase] && !yield(s) {
				return
			}
		}
	}
}

// reached returns, for each day, the states that can be reached on it, in order.
func (c *course) reached() [][]state {
	days := make([][]state, len(c.days))
	found := map[state]bool{}
	var before []state
	for day := range days {
		clear(found)
		for s := range c.coming(before, day) {
			found[s] = true
		}
		for s := range c.states() {
			if found[s] {
				days[day] = append(days[day], s)
			}
		}
		before = days[day]
	}
	return days
}

// firstEmpty returns the first day that no state is reached on, less than 0 if there is none.
func firstEmpty(days [][]state) int {
	return slices.IndexFunc(days, func(l []state) bool { return len(l) == 0 })
}

// isPossible says whether a life is possible.
func (c *course) isPossible() bool { return firstEmpty(c.reached()) < 0 }
