package nest

import "potence/api"

// livesOf returns all lives that are possible for a nest, and counts what there is on a day.
func livesOf(n api.Nest, what, day int) *lives {
	c := newCourse(n)
	return c.lives(tally{func(d, phase, _ int) int {
		if d != day {
			return 0
		}
		return c.stages[phase].numbers[what]
	}})
}

// below returns the numbers below those of a span; this is no span if there are none.
func below(s api.Span) api.Span { return api.Span{Lo: 0, Hi: s.Lo - 1} }

// above returns the numbers above those of a span; this is no span if there are none.
func above(s api.Span) api.Span { return api.Span{Lo: s.Hi + 1, Hi: api.MaxYoung} }

// refuted returns what shows that what there is on a day is none of some numbers; nothing if there are no such numbers.
func refuted(n api.Nest, what, day int, s api.Span) [][]api.Stay {
	if !isCounts(s) {
		return nil
	}
	asked, _ := Asked(n, what, day, s)
	l, _, _ := Contradiction(asked)
	return l
}

// Ends returns between which ends a number of a day lies.
func Ends(n api.Nest, what, day int) (api.Number, api.Errno) {
	if e := checkAsked(n, what, day); e != api.OK {
		return api.Number{}, e
	}
	l := livesOf(n, what, day)
	s, ok := l.ends()
	if !ok {
		return api.Number{}, api.ErrClash
	}
	return api.Number{
		Span: s, Low: l.life(low), High: l.life(high),
		Below: refuted(n, what, day, below(s)),
		Above: refuted(n, what, day, above(s)),
	}, api.OK
}

// attains says whether a life is possible, and has a number of what there is on a day.
func attains(n api.Nest, life []int, what, day, number int) bool {
	_, ok, e := Fits(n, life)
	return e == api.OK && ok && numbersOf(n.Breed.Phases[life[day]])[what] == number
}

// isRefuted says whether stays show that what there is on a day is none of some numbers; whether there are no stays if there are no such numbers.
func isRefuted(n api.Nest, what, day int, s api.Span, l [][]api.Stay) bool {
	if !isCounts(s) {
		return len(l) == 0
	}
	asked, _ := Asked(n, what, day, s)
	return CheckContradiction(asked, l) == api.OK
}

// isShown says whether a number has just what shows its ends.
func isShown(n api.Nest, what, day int, x api.Number) bool {
	if !isCounts(x.Span) {
		return false
	}
	if !attains(n, x.Low, what, day, x.Span.Lo) || !attains(n, x.High, what, day, x.Span.Hi) {
		return false
	}
	return isRefuted(n, what, day, below(x.Span), x.Below) && isRefuted(n, what, day, above(x.Span), x.Above)
}

// CheckEnds returns OK if it is shown between which ends a number of a day lies.
func CheckEnds(n api.Nest, what, day int, x api.Number) api.Errno {
	if e := checkAsked(n, what, day); e != api.OK {
		return e
	}
	if !isPossible(n) {
		return api.ErrClash
	}
	if areTooMany(x.Below) || areTooMany(x.Above) {
		return api.ErrLimit
	}
	if !isShown(n, what, day, x) {
		return api.ErrProof
	}
	return api.OK
}

// Would returns between which ends a number would lie behind a further look.
func Would(n api.Nest, p api.Peep, what, day int) (api.Span, api.Errno) {
	if e := checkNumber(n, what, day); e != api.OK {
		return api.Span{}, e
	}
	more := with(n, p)
	if e := Check(more); e != api.OK {
		return api.Span{}, e
	}
	s, ok := livesOf(more, what, day).ends()
	if !ok {
		return api.Span{}, api.ErrClash
	}
	return s, api.OK
}

// Rests returns the looks and takings without each of which the ends of a number are others.
func Rests(n api.Nest, what, day int) ([]int, api.Errno) {
	if e := checkNumber(n, what, day); e != api.OK {
		return nil, e
	}
	all, ok := livesOf(n, what, day).ends()
	if !ok {
		return nil, api.ErrClash
	}
	var rests []int
	for _, id := range ids(n) {
		if s, ok := livesOf(without(n, []int{id}), what, day).ends(); !ok || s != all {
			rests = append(rests, id)
		}
	}
	return rests, api.OK
}
