package grain

import (
	"cmp"
	"iter"
	"sort"

	"potence/api"
)

// without returns the plan of what is left to be bought if what a day t needs is bought on a day i: there is no further fare on i.
func (p plan) without(i, t int) plan {
	free := changed(p.Barn, i, func(d *api.Market) { d.Fare = 0 })
	return plan{needing(free, t, 0), p.most}
}

// through yields, for each day for which it can be bought on a day i, what a cheapest way costs in which this is done. It is not enough to look at days one after the other here: a day on which it is bought at a loss is best bought on for the one day for which that loses least.
func (p plan) through(i int) iter.Seq[int] {
	return func(yield func(int) bool) {
		for t := range p.targets(i) {
			if p.need(t) == 0 {
				continue
			}
			left, is := p.without(i, t).cheapest()
			if is && !yield(left+p.Days[i].Fare+p.grain(i, t)) {
				return
			}
		}
	}
}

// made returns how much more it costs at least if one buys on a day, or false if there is no such way.
func (p plan) made(day int) (int, bool) {
	cost, is := least(p.through(day), cmp.Compare)
	if !is {
		return 0, false
	}
	all, _ := p.cheapest()
	return cost - all, true
}

// Surely returns the days on which one buys in all cheapest ways.
func Surely(b api.Barn, most bool) ([]int, api.Errno) {
	p, best, e := found(b, most)
	if e != api.OK {
		return nil, e
	}
	var days []int
	for day := range p.Days {
		cost, is := plan{closed(b, day), most}.cheapest()
		if !is || cost > best[len(p.Days)].cost {
			days = append(days, day)
		}
	}
	return days, api.OK
}

// Possibly returns the days on which one buys in some cheapest way.
func Possibly(b api.Barn, most bool) ([]int, api.Errno) {
	p, best, e := found(b, most)
	if e != api.OK {
		return nil, e
	}
	var days []int
search:
	for day := range p.Days {
		for cost := range p.through(day) {
			if cost == best[len(p.Days)].cost {
				days = append(days, day)
				continue search
			}
		}
	}
	return days, api.OK
}

// asked returns the plan of a barn, and by how much it costs more to buy on a day, or the first error of it with that day.
func asked(b api.Barn, most bool, day int) (plan, int, api.Errno) {
	if e := checkDay(b, day); e != api.OK {
		return plan{}, 0, e
	}
	p := plan{b, most}
	more, is := p.made(day)
	if !is {
		return plan{}, 0, api.ErrNone
	}
	return p, more, api.OK
}

// Made returns how much more it costs at least if one buys on a day.
func Made(b api.Barn, most bool, day int) (int, api.Errno) {
	_, more, e := asked(b, most, day)
	return more, e
}

// Offer returns the greatest price at which a lot on a day is bought in some cheapest way. The greater the price, the more costs each way in which the day occurs, and no other one, so that the price can be searched by halves.
func Offer(b api.Barn, most bool, day int) (int, bool, api.Errno) {
	p, _, e := asked(b, most, day)
	if e != api.OK {
		return 0, false, e
	}
	prices := sort.Search(api.MaxPrice+1, func(price int) bool {
		other := changed(p.Barn, day, func(d *api.Market) { d.Price = price })
		more, _ := plan{other, most}.made(day)
		return more > 0
	})
	if prices == 0 {
		return 0, false, api.OK
	}
	return prices - 1, true, api.OK
}
