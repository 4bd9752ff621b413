package about

import "potence/api"

// question is what is asked of two vague days: whether something is so for a number of each.
type question struct {
	so func(n [2]int) bool
	// best returns a number of each span: if it is so for any, then for these.
	best func(s, t api.Span) [2]int
	// worst returns a number of each span: if it is not so for any, then not for these.
	worst func(s, t api.Span) [2]int
}

// nearest returns the number of a span that is next to a number.
func nearest(s api.Span, n int) int { return min(max(n, s.Lo), s.Hi) }

// verdict returns the verdict of what is asked of right vague days.
func (q question) verdict(a, b api.Vague) api.Verdict {
	// It is sure from the degree on that comes behind the greatest one to which it may be not so.
	v := api.Verdict{Must: 1}
	for i := range api.MaxDegree {
		if yes := q.best(a.Spans[i], b.Spans[i]); q.so(yes) {
			v.Can, v.Yes = i+1, yes
		}
		if no := q.worst(a.Spans[i], b.Spans[i]); !q.so(no) {
			v.Must, v.No = i+2, no
		}
	}
	return v
}

// check returns ErrProof unless a verdict is one of what is asked of right vague days.
func (q question) check(a, b api.Vague, v api.Verdict) api.Errno {
	w := q.verdict(a, b)
	if v.Can != w.Can || v.Must != w.Must {
		return api.ErrProof
	}
	if !q.shows(a, b, v.Can, v.Yes, true) || !q.shows(a, b, v.Must-1, v.No, false) {
		return api.ErrProof
	}
	return api.OK
}

// shows says whether numbers are of the spans of a degree, and it is so for them, or it is not; if the degree is 0, whether they are zeros.
func (q question) shows(a, b api.Vague, degree int, n [2]int, so bool) bool {
	if degree == 0 {
		return n == [2]int{}
	}
	return has(a.Spans[degree-1], n[0]) && has(b.Spans[degree-1], n[1]) && q.so(n) == so
}

// isBefore asks whether a number is less than another one.
func isBefore() question {
	return question{
		so:    func(n [2]int) bool { return n[0] < n[1] },
		best:  func(s, t api.Span) [2]int { return [2]int{s.Lo, t.Hi} },
		worst: func(s, t api.Span) [2]int { return [2]int{s.Hi, t.Lo} },
	}
}

// Before returns to which degree a day is before another one.
func Before(a, b api.Vague) (api.Verdict, api.Errno) {
	if e := checkTwo(a, b); e != api.OK {
		return api.Verdict{}, e
	}
	return isBefore().verdict(a, b), api.OK
}

// CheckBefore returns OK if a verdict of Before is right.
func CheckBefore(a, b api.Vague, v api.Verdict) api.Errno {
	if e := checkTwo(a, b); e != api.OK {
		return e
	}
	return isBefore().check(a, b, v)
}

// apart returns how many days lie between two numbers.
func apart(n [2]int) int { return max(n[0]-n[1], n[1]-n[0]) }

// isNear asks whether two numbers are at most some days apart.
func isNear(most int) question {
	return question{
		so: func(n [2]int) bool { return apart(n) <= most },
		best: func(s, t api.Span) [2]int {
			y := nearest(t, s.Lo)
			return [2]int{nearest(s, y), y}
		},
		worst: func(s, t api.Span) [2]int {
			out, back := [2]int{s.Lo, t.Hi}, [2]int{s.Hi, t.Lo}
			if apart(out) > apart(back) {
				return out
			}
			return back
		},
	}
}

// checkNear returns the first error of what Near is asked.
func checkNear(a, b api.Vague, most int) api.Errno {
	if e := checkTwo(a, b); e != api.OK {
		return e
	}
	if most < 0 || most > 2*api.MaxReach {
		return api.ErrArg
	}
	return api.OK
}

// Near returns to which degree two days are at most some days apart.
func Near(a, b api.Vague, most int) (api.Verdict, api.Errno) {
	if e := checkNear(a, b, most); e != api.OK {
		return api.Verdict{}, e
	}
	return isNear(most).verdict(a, b), api.OK
}

// CheckNear returns OK if a verdict of Near is right.
func CheckNear(a, b api.Vague, most int, v api.Verdict) api.Errno {
	if e := checkNear(a, b, most); e != api.OK {
		return e
	}
	return isNear(most).check(a, b, v)
}

// isIn asks whether a number lies in a span. The other number, of the vague day that is zero, can only be 0, as a verdict of In wants it.
func isIn(in api.Span) question {
	return question{
		so:   func(n [2]int) bool { return has(in, n[0]) },
		best: func(s, t api.Span) [2]int { return [2]int{nearest(s, in.Lo), t.Lo} },
		worst: func(s, t api.Span) [2]int {
			if has(in, s.Lo) {
				return [2]int{s.Hi, t.Lo}
			}
			return [2]int{s.Lo, t.Lo}
		},
	}
}

// checkIn returns the first error of what In is asked.
func checkIn(a api.Vague, s api.Span) api.Errno {
	if e := Check(a); e != api.OK {
		return e
	}
	if !isSpan(s) {
		return api.ErrArg
	}
	return api.OK
}

// In returns to which degree a day lies in a span.
func In(a api.Vague, s api.Span) (api.Verdict, api.Errno) {
	if e := checkIn(a, s); e != api.OK {
		return api.Verdict{}, e
	}
	return isIn(s).verdict(a, api.Vague{}), api.OK
}

// CheckIn returns OK if a verdict of In is right.
func CheckIn(a api.Vague, s api.Span, v api.Verdict) api.Errno {
	if e := checkIn(a, s); e != api.OK {
		return e
	}
	return isIn(s).check(a, api.Vague{}, v)
}
