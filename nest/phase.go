package nest

import (
	"slices"

	"potence/api"
)

// phases returns the phases in which lives are on a day, in increasing order.
func (l *lives) phases(day int) []int {
	var all []int
	for _, o := range l.on[day] {
		all = append(all, o.phase)
	}
	return slices.Compact(all)
}

// Phases returns the phases in which a nest can be on a day.
func Phases(n api.Nest, day int) ([]int, api.Errno) {
	if e := Check(n); e != api.OK {
		return nil, e
	}
	if !isDay(n, day) {
		return nil, api.ErrArg
	}
	phases := newCourse(n).lives(nothing()).phases(day)
	if len(phases) == 0 {
		return nil, api.ErrClash
	}
	return phases, api.OK
}

// livesWith returns all possible lives, or the first error of a nest with a phase.
func livesWith(n api.Nest, phase int) (*lives, api.Errno) {
	if e := Check(n); e != api.OK {
		return nil, e
	}
	if !isIndex(phase, len(n.Breed.Phases)) {
		return nil, api.ErrArg
	}
	l := newCourse(n).lives(nothing())
	if _, ok := l.ends(); !ok {
		return nil, api.ErrClash
	}
	return l, api.OK
}

// Days returns the days on which a nest is surely in a phase, and possibly.
func Days(n api.Nest, phase int) ([]api.Span, []api.Span, api.Errno) {
	l, e := livesWith(n, phase)
	if e != api.OK {
		return nil, nil, e
	}
	var sure, possible []int
	for day := range l.on {
		phases := l.phases(day)
		if !slices.Contains(phases, phase) {
			continue
		}
		possible = append(possible, day)
		if len(phases) == 1 {
			sure = append(sure, day)
		}
	}
	return spans(sure), spans(possible), api.OK
}

// begins says whether a life can be in a phase on a day, if the states before are those in which it can be the day before, and has not been in the phase.
func (l *lives) begins(phase, day int, before []state) bool {
	for s := range l.coming(before, day) {
		if s.phase == phase && slices.ContainsFunc(l.on[day], func(o outlook) bool { return o.state == s }) {
			return true
		}
	}
	return false
}

// First returns the first day on which a nest is in a phase, at the earliest and at the latest; false if it need not be at all.
func First(n api.Nest, phase int) (api.Span, bool, api.Errno) {
	l, e := livesWith(n, phase)
	if e != api.OK {
		return api.Span{}, false, e
	}
	never := newCourse(n)
	for day := range never.days {
		never.narrow(day, func(p int) bool { return p != phase })
	}
	reached := never.reached()
	var firsts []int
	var before []state
	for day := range l.on {
		if l.begins(phase, day, before) {
			firsts = append(firsts, day)
		}
		before = reached[day]
	}
	if len(firsts) == 0 {
		return api.Span{}, false, api.OK
	}
	return api.Span{Lo: firsts[0], Hi: firsts[len(firsts)-1]}, firstEmpty(reached) >= 0, api.OK
}
