package grain

import (
	"cmp"
	"iter"
	"slices"

	"potence/api"
)

// never is more than any way costs.
const never = 1 << 40

// course is a way for the days up to one: what it costs, and the day on which it buys for the last of them, from a first one on, if they need something.
//
// Some cheapest way buys for no day later than for one behind it: where a way does, what is bought for either day keeps for the other one, too, so that one of both is no dearer for both. What such a way buys on a day is for days one after the other, as in a course.
type course struct{ cost, day, first int }

// least returns the first of those that are yielded to which none compares as less, and whether any is yielded.
func least[T any](all iter.Seq[T], compare func(a, b T) int) (T, bool) {
	var first T
	is := false
	for x := range all {
		if !is || compare(x, first) < 0 {
			first, is = x, true
		}
	}
	return first, is
}

// courses returns a cheapest course for each number of first days, from 0 on, or false if there is no way.
func (p plan) courses() ([]course, bool) {
	best := []course{{}}
	ends := slices.Repeat([]course{{cost: never}}, len(p.Days)) // by the day on which they buy last
	for t := range p.Days {
		if p.need(t) == 0 {
			best = append(best, course{cost: best[t].cost, first: t})
			continue
		}
		for i := range p.sources(t) {
			if fresh := best[t].cost + p.Days[i].Fare; fresh < ends[i].cost {
				ends[i] = course{fresh, i, t}
			}
			ends[i].cost += p.grain(i, t)
		}
		day, is := least(p.sources(t), func(i, j int) int { return cmp.Compare(ends[i].cost, ends[j].cost) })
		if !is {
			return nil, false
		}
		best = append(best, ends[day])
	}
	return best, true
}

// cheapest returns what a cheapest way costs, or false if there is no way.
func (p plan) cheapest() (int, bool) {
	best, is := p.courses()
	if !is {
		return 0, false
	}
	return best[len(p.Days)].cost, true
}

// way returns the way that courses lead to.
func (p plan) way(best []course) []int {
	bought := slices.Repeat([]int{-1}, len(p.Days))
	for n := len(p.Days); n > 0; n = best[n].first {
		for t := best[n].first; t < n; t++ {
			if p.need(t) > 0 {
				bought[t] = best[n].day
			}
		}
	}
	return bought
}

// found returns the plan of a barn, and cheapest courses, or the first error of it, or that there is no way.
func found(b api.Barn, most bool) (plan, []course, api.Errno) {
	if e := Check(b); e != api.OK {
		return plan{}, nil, e
	}
	p := plan{b, most}
	best, is := p.courses()
	if !is {
		return plan{}, nil, api.ErrNone
	}
	return p, best, api.OK
}
