package nest

import (
	"iter"
	"slices"

	"potence/api"
)

// tally is what is counted along a life.
type tally struct {
	// count returns what a day adds, by its phase and the one of the next day; these are the same on the last day.
	count func(day, phase, next int) int
}

// nothing counts nothing.
func nothing() tally {
	return tally{func(_, _, _ int) int { return 0 }}
}

// outlook is a state from which a life goes on to the last day, and between which ends lies what is counted from its day on.
type outlook struct {
	state
	counts api.Span
}

// lives are all possible lives: for each day the states in which they are, in order.
type lives struct {
	*course
	tally
	on [][]outlook
}

// around returns from the least to the greatest what some things can count, and whether any can.
func around[T any](things iter.Seq[T], counts func(T) (api.Span, bool)) (api.Span, bool) {
	var all api.Span
	some := false
	for x := range things {
		s, ok := counts(x)
		if !ok {
			continue
		}
		if !some {
			all, some = s, true
		}
		all = api.Span{Lo: min(all.Lo, s.Lo), Hi: max(all.Hi, s.Hi)}
	}
	return all, some
}

// counts returns between which ends lies what is counted from a state of a day on, by what is counted from those of the next day on, and whether a life goes on from it.
func (l *lives) counts(day int, s state, ahead map[state]api.Span) (api.Span, bool) {
	if day == l.last() {
		n := l.count(day, s.phase, s.phase)
		return api.Span{Lo: n, Hi: n}, true
	}
	return around(l.next(day, s), func(t state) (api.Span, bool) {
		rest, ok := ahead[t]
		n := l.count(day, s.phase, t.phase)
		return api.Span{Lo: n + rest.Lo, Hi: n + rest.Hi}, ok
	})
}

// lives returns all possible lives.
func (c *course) lives(t tally) *lives {
	l := &lives{course: c, tally: t, on: make([][]outlook, len(c.days))}
	reached := c.reached()
	ahead := map[state]api.Span{}
	for day := l.last(); day >= 0; day-- {
		for _, s := range reached[day] {
			if n, ok := l.counts(day, s, ahead); ok {
				l.on[day] = append(l.on[day], outlook{s, n})
			}
		}
		clear(ahead)
		for _, o := range l.on[day] {
			ahead[o.state] = o.counts
		}
	}
	return l
}

// ends returns the least and the greatest that is counted along a life, and whether one is possible.
func (l *lives) ends() (api.Span, bool) {
	return around(slices.Values(l.on[0]), func(o outlook) (api.Span, bool) { return o.counts, true })
}

// low returns the least number of a span.
func low(s api.Span) int { return s.Lo }

// high returns the greatest number of a span.
func high(s api.Span) int { return s.Hi }

// life returns a life, of those that are possible, along which an end of all that is counted is attained.
func (l *lives) life(end func(api.Span) int) []int {
	all, _ := l.ends()
	at := slices.IndexFunc(l.on[0], func(o outlook) bool { return end(o.counts) == end(all) })
	now := l.on[0][at]
	life := []int{now.phase}
	for day := range l.last() {
	search:
		for s := range l.next(day, now.state) {
			rest := end(now.counts) - l.count(day, now.phase, s.phase)
			for _, o := range l.on[day+1] {
				if o.state == s && end(o.counts) == rest {
					now = o
					break search
				}
			}
		}
		life = append(life, now.phase)
	}
	return life
}

// Fits reports whether a life is possible, and otherwise the first day by which it is not.
func Fits(n api.Nest, life []int) (int, bool, api.Errno) {
	if e := Check(n); e != api.OK {
		return 0, false, e
	}
	if len(life) != n.Last+1 {
		return 0, false, api.ErrArg
	}
	c := newCourse(n)
	for day, phase := range life {
		c.narrow(day, func(p int) bool { return p == phase })
	}
	if empty := firstEmpty(c.reached()); empty >= 0 {
		return empty, false, api.OK
	}
	return 0, true, api.OK
}

// Find returns a life that is possible.
func Find(n api.Nest) ([]int, api.Errno) {
	if e := Check(n); e != api.OK {
		return nil, e
	}
	l := newCourse(n).lives(nothing())
	if _, ok := l.ends(); !ok {
		return nil, api.ErrClash
	}
	return l.life(low), api.OK
}

// Times returns how often a change happens at least and at most, and lives in which it does.
func Times(n api.Nest, change int) (api.Span, []int, []int, api.Errno) {
	if e := Check(n); e != api.OK {
		return api.Span{}, nil, nil, e
	}
	if !isIndex(change, len(n.Breed.Changes)) {
		return api.Span{}, nil, nil, api.ErrArg
	}
	x := n.Breed.Changes[change]
	l := newCourse(n).lives(tally{func(_, phase, next int) int {
		if phase == x.From && next == x.To {
			return 1
		}
		return 0
	}})
	s, ok := l.ends()
	if !ok {
		return api.Span{}, nil, nil, api.ErrClash
	}
	return s, l.life(low), l.life(high), api.OK
}
