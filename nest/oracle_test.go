package nest_test

import (
	"slices"

	"potence/api"
)

// dice are numbers that are the same in each run.
type dice uint64

// roll returns a number less than n.
func (d *dice) roll(n int) int {
	*d = *d*6364136223846793005 + 1442695040888963407
	return int(uint64(*d)>>33) % n
}

// span returns some span around a number, within 0 to 9.
func (d *dice) span(n int) api.Span {
	return api.Span{Lo: max(n-d.roll(3), 0), Hi: min(n+d.roll(3), 9)}
}

// breed returns some small breed, in which phases often have the same numbers.
func (d *dice) breed() api.Breed {
	var b api.Breed
	for range 1 + d.roll(4) {
		p := api.Phase{Eggs: d.roll(3), Squabs: d.roll(2), Old: 9 - d.roll(2), Least: 1 + d.roll(3)}
		if d.roll(3) > 0 {
			p.Most = p.Least + d.roll(3)
		}
		b.Phases = append(b.Phases, p)
	}
	for from := range b.Phases {
		for to := range b.Phases {
			if from != to && d.roll(2) == 0 {
				b.Changes = append(b.Changes, api.Change{From: from, To: to, Taken: d.roll(3) == 0})
			}
		}
	}
	for i := range b.Changes {
		j := i + d.roll(len(b.Changes)-i)
		b.Changes[i], b.Changes[j] = b.Changes[j], b.Changes[i]
	}
	return b
}

// peep returns some look into a nest, in which not all is seen.
func (d *dice) peep(n api.Nest, id int) api.Peep {
	p := api.Peep{ID: id, Day: d.roll(n.Last + 1)}
	for i, most := range [3]int{2, 1, 9} {
		p.Numbers[i] = api.Span{Lo: 0, Hi: 9}
		if d.roll(3) == 0 {
			p.Numbers[i] = d.span(max(most-d.roll(2), 0))
		}
	}
	return p
}

// nest returns some small nest.
func (d *dice) nest(last int) api.Nest {
	n := api.Nest{Breed: d.breed(), Last: d.roll(last + 1)}
	id := 1 + d.roll(20)
	for range d.roll(5) {
		n.Peeps = append(n.Peeps, d.peep(n, id))
		id = (id+7)%30 + 1
	}
	for day := range n.Last + 1 {
		if d.roll(6) == 0 && len(n.Takings) < 3 {
			n.Takings = append(n.Takings, api.Taking{ID: id, Day: day})
			id = (id+7)%30 + 1
		}
	}
	if d.roll(2) == 0 {
		slices.Reverse(n.Takings)
	}
	return n
}

// counted returns a number of a phase.
func counted(p api.Phase, what int) int { return []int{p.Eggs, p.Squabs, p.Old}[what] }

// seen says whether a phase's numbers lie in the spans of all looks of a day.
func seen(n api.Nest, day, phase int) bool {
	for _, p := range n.Peeps {
		for what, s := range p.Numbers {
			x := counted(n.Breed.Phases[phase], what)
			if p.Day == day && (x < s.Lo || x > s.Hi) {
				return false
			}
		}
	}
	return true
}

// taken says whether there is a taking behind a day.
func taken(n api.Nest, day int) bool {
	return slices.ContainsFunc(n.Takings, func(t api.Taking) bool { return t.Day == day })
}

// leads says whether a change leads from a phase to another one behind a day.
func leads(n api.Nest, day, from, to int) bool {
	return slices.Contains(n.Breed.Changes, api.Change{From: from, To: to, Taken: taken(n, day)})
}

// run is a run of a life.
type run struct{ phase, from, to int }

// runs returns the runs of a life.
func runs(life []int) []run {
	var all []run
	for day, phase := range life {
		if day == 0 || life[day-1] != phase {
			all = append(all, run{phase, day, day})
		}
		all[len(all)-1].to = day
	}
	return all
}

// isPossible says whether a life is possible, by its runs.
func isPossible(n api.Nest, life []int) bool {
	for day, phase := range life {
		if phase < 0 || phase >= len(n.Breed.Phases) || !seen(n, day, phase) {
			return false
		}
		if day < n.Last && taken(n, day) && !leads(n, day, phase, life[day+1]) {
			return false
		}
	}
	all := runs(life)
	for i, r := range all {
		p, days := n.Breed.Phases[r.phase], r.to-r.from+1
		if p.Most != 0 && days > p.Most || i > 0 && i < len(all)-1 && days < p.Least {
			return false
		}
		if i > 0 && !leads(n, all[i-1].to, all[i-1].phase, r.phase) {
			return false
		}
	}
	return true
}

// until returns a nest with the days up to one.
func until(n api.Nest, day int) api.Nest {
	u := api.Nest{Breed: n.Breed, Last: day}
	for _, p := range n.Peeps {
		if p.Day <= day {
			u.Peeps = append(u.Peeps, p)
		}
	}
	for _, t := range n.Takings {
		if t.Day <= day {
			u.Takings = append(u.Takings, t)
		}
	}
	return u
}

// allLives returns all possible lives, of all lists of phases that there are.
func allLives(n api.Nest) [][]int {
	var all [][]int
	life := make([]int, n.Last+1)
	var list func(day int)
	list = func(day int) {
		if day > n.Last {
			if isPossible(n, life) {
				all = append(all, slices.Clone(life))
			}
			return
		}
		for life[day] = range n.Breed.Phases {
			list(day + 1)
		}
	}
	list(0)
	return all
}

// possibleLives returns the same, but does not go on where the days up to one are not possible.
func possibleLives(n api.Nest) [][]int {
	all := [][]int{nil}
	for day := range n.Last + 1 {
		u := until(n, day)
		var longer [][]int
		for _, life := range all {
			for phase := range n.Breed.Phases {
				if l := append(slices.Clone(life), phase); isPossible(u, l) {
					longer = append(longer, l)
				}
			}
		}
		all = longer
	}
	return all
}

// state is a phase with an age.
type state struct{ phase, age int }

// ripe returns the ripe age of a phase.
func ripe(p api.Phase) int {
	if p.Most == 0 {
		return p.Least
	}
	return p.Most
}

// states returns all states.
func states(n api.Nest) []state {
	var all []state
	for i, p := range n.Breed.Phases {
		for age := 1; age <= ripe(p); age++ {
			all = append(all, state{i, age})
		}
	}
	return all
}

// isNext says whether a state is among the next ones of another one on a day.
func isNext(n api.Nest, day int, s, t state) bool {
	p := n.Breed.Phases[s.phase]
	if s.phase != t.phase {
		return t.age == 1 && s.age >= p.Least && leads(n, day, s.phase, t.phase)
	}
	if taken(n, day) {
		return false
	}
	return t.age == s.age+1 || t.age == s.age && s.age == ripe(p) && p.Most == 0
}

// comes says whether a state has to be among those of a day, if some states are those of the day before.
func comes(n api.Nest, day int, t state, before map[state]bool) bool {
	if !seen(n, day, t.phase) {
		return false
	}
	if day == 0 {
		return true
	}
	for s := range before {
		if isNext(n, day-1, s, t) {
			return true
		}
	}
	return false
}

// reached returns the states that are reached on each day.
func reached(n api.Nest) []map[state]bool {
	var days []map[state]bool
	var before map[state]bool
	for day := range n.Last + 1 {
		now := map[state]bool{}
		for _, s := range states(n) {
			if comes(n, day, s, before) {
				now[s] = true
			}
		}
		days = append(days, now)
		before = now
	}
	return days
}

// standFor returns the states for which stays stand, and whether they are right.
func standFor(n api.Nest, stays []api.Stay) (map[state]bool, bool) {
	all := map[state]bool{}
	for i, x := range stays {
		if x.Phase < 0 || x.Phase >= len(n.Breed.Phases) || i > 0 && x.Phase <= stays[i-1].Phase || len(x.Ages) == 0 {
			return nil, false
		}
		for j, s := range x.Ages {
			if s.Lo > s.Hi || s.Lo < 1 || s.Hi > ripe(n.Breed.Phases[x.Phase]) || j > 0 && s.Lo < x.Ages[j-1].Hi+2 {
				return nil, false
			}
			for age := s.Lo; age <= s.Hi; age++ {
				all[state{x.Phase, age}] = true
			}
		}
	}
	return all, true
}

// refutes says whether stays are a contradiction.
func refutes(n api.Nest, l [][]api.Stay) bool {
	if len(l) < 1 || len(l) > n.Last+1 || len(l[len(l)-1]) != 0 {
		return false
	}
	var before map[state]bool
	for day, stays := range l {
		now, ok := standFor(n, stays)
		if !ok {
			return false
		}
		for _, s := range states(n) {
			if comes(n, day, s, before) && !now[s] {
				return false
			}
		}
		before = now
	}
	return true
}

// within returns the least and the greatest of some numbers.
func within(numbers []int) api.Span {
	return api.Span{Lo: slices.Min(numbers), Hi: slices.Max(numbers)}
}

// each returns a number of each life.
func each(lives [][]int, number func(life []int) int) []int {
	var all []int
	for _, life := range lives {
		all = append(all, number(life))
	}
	return all
}

// endsOf returns the least and the greatest number of a day of some lives.
func endsOf(n api.Nest, lives [][]int, what, day int) api.Span {
	return within(each(lives, func(life []int) int { return counted(n.Breed.Phases[life[day]], what) }))
}

// times returns how often a change happens in a life.
func times(c api.Change, life []int) int {
	count := 0
	for day := range len(life) - 1 {
		if life[day] == c.From && life[day+1] == c.To {
			count++
		}
	}
	return count
}

// drop returns a nest without the looks and takings with some IDs.
func drop(n api.Nest, ids ...int) api.Nest {
	n.Peeps = slices.DeleteFunc(slices.Clone(n.Peeps), func(p api.Peep) bool { return slices.Contains(ids, p.ID) })
	n.Takings = slices.DeleteFunc(slices.Clone(n.Takings), func(t api.Taking) bool { return slices.Contains(ids, t.ID) })
	return n
}

// toldIDs returns the IDs of looks, and of looks and takings, in increasing order.
func toldIDs(n api.Nest) (looks, all []int) {
	for _, p := range n.Peeps {
		looks = append(looks, p.ID)
	}
	all = slices.Clone(looks)
	for _, t := range n.Takings {
		all = append(all, t.ID)
	}
	slices.Sort(looks)
	slices.Sort(all)
	return looks, all
}

// days returns the days that fewest spans have, and whether these are fewest spans in order.
func days(spans []api.Span) (map[int]bool, bool) {
	all := map[int]bool{}
	for i, s := range spans {
		if s.Lo > s.Hi || i > 0 && s.Lo <= spans[i-1].Hi+1 {
			return nil, false
		}
		for day := s.Lo; day <= s.Hi; day++ {
			all[day] = true
		}
	}
	return all, true
}
