package grain

import "potence/api"

// maxDayPrice is the greatest price of what a day needs; the least one is as far below 0.
const maxDayPrice = 1 << 40

// Best returns the cheapest way to buy what is needed. The price of a day is what it adds to the cost of the days before it: if it was bought on one day for some days one after the other, these would add no more than that costs.
func Best(b api.Barn, most bool) (api.Lots, api.Errno) {
	p, best, e := found(b, most)
	if e != api.OK {
		return api.Lots{}, e
	}
	l := api.Lots{Bought: p.way(best), Cost: best[len(p.Days)].cost}
	for t := range p.Days {
		l.Prices = append(l.Prices, best[t+1].cost-best[t].cost)
	}
	return l, api.OK
}

// arePrices says whether a list can be prices that together are a cost.
func (p plan) arePrices(prices []int, cost int) bool {
	if len(prices) != len(p.Days) {
		return false
	}
	sum := 0
	for t, price := range prices {
		if !isFrom(-maxDayPrice, price, maxDayPrice) || p.need(t) == 0 && price != 0 {
			return false
		}
		sum += price
	}
	return sum == cost
}

// isUndercut says whether it costs less to buy on a day, for some days one after the other, than their prices tell.
func (p plan) isUndercut(i int, prices []int) bool {
	saved := 0 // the most that is saved, without the fare, on days that end with the last one that was looked at
	for t := range p.targets(i) {
		saved = max(saved, 0) + prices[t] - p.grain(i, t)
		if saved > p.Days[i].Fare {
			return true
		}
	}
	return false
}

// isProof says whether prices prove that no way costs less than they do together.
func (p plan) isProof(prices []int, cost int) bool {
	if !p.arePrices(prices, cost) {
		return false
	}
	for i := range p.Days {
		if p.isUndercut(i, prices) {
			return false
		}
	}
	return true
}

// CheckBest returns OK if the prices of lots prove that nothing costs less.
func CheckBest(b api.Barn, most bool, l api.Lots) api.Errno {
	if e := Check(b); e != api.OK {
		return e
	}
	p := plan{b, most}
	if !p.isWay(l.Bought) || l.Cost != p.cost(l.Bought) || !p.isProof(l.Prices, l.Cost) {
		return api.ErrProof
	}
	return api.OK
}

// Ends returns what the cheapest way costs at least and at most, whatever the weather is.
func Ends(b api.Barn) (api.Span, api.Errno) {
	if e := Check(b); e != api.OK {
		return api.Span{}, e
	}
	// If there is a way for the most, there is one for the least.
	lo, _ := plan{b, false}.cheapest()
	hi, is := plan{b, true}.cheapest()
	if !is {
		return api.Span{}, api.ErrNone
	}
	return api.Span{Lo: lo, Hi: hi}, api.OK
}

// Until returns what the cheapest way costs for the first days alone, for each number of them.
func Until(b api.Barn, most bool) ([]int, api.Errno) {
	_, best, e := found(b, most)
	if e != api.OK {
		return nil, e
	}
	var costs []int
	for _, c := range best[1:] {
		costs = append(costs, c.cost)
	}
	return costs, api.OK
}

// Further returns how much more it costs if a day needs one bushel more.
func Further(b api.Barn, most bool, day int) (int, api.Errno) {
	if e := checkDay(b, day); e != api.OK {
		return 0, e
	}
	p := plan{b, most}
	need := p.need(day)
	if need == api.MaxBushel {
		return 0, api.ErrRange
	}
	// If there is a way with one bushel more, there is one without.
	less, _ := p.cheapest()
	more, is := plan{needing(b, day, need+1), most}.cheapest()
	if !is {
		return 0, api.ErrNone
	}
	return more - less, api.OK
}
