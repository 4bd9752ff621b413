package grain

import (
	"iter"
	"slices"

	"potence/api"
)

// changed returns a barn, in new memory, one day of which is changed.
func changed(b api.Barn, day int, change func(d *api.Market)) api.Barn {
	b.Days = slices.Clone(b.Days)
	change(&b.Days[day])
	return b
}

// closed returns a barn in which there is no market on a day.
func closed(b api.Barn, day int) api.Barn {
	return changed(b, day, func(d *api.Market) { d.Closed = true })
}

// needing returns a barn in which a day needs just so many bushels.
func needing(b api.Barn, day, bushels int) api.Barn {
	return changed(b, day, func(d *api.Market) { d.Need = api.Span{Lo: bushels, Hi: bushels} })
}

// plan is a barn of which is known whether its days need the most or the least.
type plan struct {
	api.Barn
	most bool
}

// need returns how many bushels a day needs.
func (p plan) need(day int) int {
	if p.most {
		return p.Days[day].Need.Hi
	}
	return p.Days[day].Need.Lo
}

// canBuy says whether it can be bought on a day i, which may be any number, for a day t.
func (p plan) canBuy(i, t int) bool {
	return isFrom(0, i, t) && t-i <= p.Keep && !p.Days[i].Closed
}

// grain returns what it costs to buy on a day i what a day t needs, without the fare.
func (p plan) grain(i, t int) int {
	return p.need(t) * (p.Days[i].Price + p.Night*(t-i))
}

// sources yields the days on which it can be bought for a day.
func (p plan) sources(t int) iter.Seq[int] {
	return func(yield func(int) bool) {
		for i := range t + 1 {
			if p.canBuy(i, t) && !yield(i) {
				return
			}
		}
	}
}

// targets yields the days for which it can be bought on a day, also those that need nothing.
func (p plan) targets(i int) iter.Seq[int] {
	return func(yield func(int) bool) {
		for t := i; t < len(p.Days) && p.canBuy(i, t); t++ {
			if !yield(t) {
				return
			}
		}
	}
}

// isWay says whether a list is a way.
func (p plan) isWay(bought []int) bool {
	if len(bought) != len(p.Days) {
		return false
	}
	for t, i := range bought {
		if p.need(t) == 0 && i != -1 || p.need(t) > 0 && !p.canBuy(i, t) {
			return false
		}
	}
	return true
}

// cost returns what a way costs.
func (p plan) cost(bought []int) int {
	sum := 0
	fares := map[int]bool{}
	for t, i := range bought {
		if i < 0 {
			continue
		}
		sum += p.grain(i, t)
		if !fares[i] {
			fares[i] = true
			sum += p.Days[i].Fare
		}
	}
	return sum
}
