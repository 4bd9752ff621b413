package grain_test

import (
	"cmp"
	"math"
	"slices"

	"potence/api"
)

// dice are numbers that are the same in each run.
type dice uint64

// roll returns a number less than n.
func (d *dice) roll(n int) int {
	*d = *d*6364136223846793005 + 1442695040888963407
	return int(uint64(*d)>>33) % n
}

// rolled returns some barn of so many days. Its numbers are so small that many ways cost the same.
func (d *dice) rolled(days int) api.Barn {
	b := api.Barn{Night: d.roll(3), Keep: d.roll(days + 1)}
	prices, fares, needs, shut := 1+d.roll(8), 1+d.roll(12), 1+d.roll(6), 3+d.roll(6)
	for range days {
		m := api.Market{Price: d.roll(prices), Fare: d.roll(fares), Closed: d.roll(shut) == 0}
		m.Need.Lo = d.roll(needs)
		m.Need.Hi = m.Need.Lo + d.roll(needs)
		b.Days = append(b.Days, m)
	}
	if d.roll(4) > 0 {
		b.Days[0].Closed = false
	}
	return b
}

// great returns some barn of so many days with great numbers, in which nearly always there is a way.
func (d *dice) great(days int) api.Barn {
	b := api.Barn{Night: d.roll(1 + d.roll(api.MaxPrice+1)), Keep: d.roll(1 + d.roll(api.MaxKeep+1))}
	fares := 1 + d.roll(1+d.roll(api.MaxFare+1))
	for range days {
		m := api.Market{Price: d.roll(api.MaxPrice + 1), Fare: d.roll(fares), Closed: b.Keep > 4 && d.roll(4) == 0}
		m.Need.Lo = d.roll(2) * d.roll(api.MaxBushel+1)
		m.Need.Hi = m.Need.Lo + d.roll(api.MaxBushel+1-m.Need.Lo)
		b.Days = append(b.Days, m)
	}
	b.Days[0].Closed = false
	return b
}

// cloned returns a barn in new memory.
func cloned(b api.Barn) api.Barn {
	b.Days = slices.Clone(b.Days)
	return b
}

// changed returns a barn, in new memory, with a change.
func changed(b api.Barn, change func(b *api.Barn)) api.Barn {
	b = cloned(b)
	change(&b)
	return b
}

// needOf returns what a day needs.
func needOf(b api.Barn, most bool, t int) int {
	if most {
		return b.Days[t].Need.Hi
	}
	return b.Days[t].Need.Lo
}

// canBuy says whether it can be bought on one day for another one, by the chapter's words.
func canBuy(b api.Barn, i, t int) bool {
	return i >= 0 && i < len(b.Days) && !b.Days[i].Closed && t >= i && t <= i+b.Keep
}

// costOn returns what it costs to buy on a day for another one, night by night.
func costOn(b api.Barn, most bool, i, t int) int {
	sum := 0
	for range needOf(b, most, t) {
		sum += b.Days[i].Price
	}
	for night := i; night < t; night++ {
		sum += needOf(b, most, t) * b.Night
	}
	return sum
}

// ways returns all ways of a barn.
func ways(b api.Barn, most bool) [][]int {
	all := [][]int{nil}
	for t := range b.Days {
		var on []int
		if needOf(b, most, t) == 0 {
			on = []int{-1}
		}
		for i := range b.Days {
			if needOf(b, most, t) > 0 && canBuy(b, i, t) {
				on = append(on, i)
			}
		}
		var longer [][]int
		for _, w := range all {
			for _, i := range on {
				longer = append(longer, append(slices.Clone(w), i))
			}
		}
		all = longer
	}
	return all
}

// isWay says whether a list is a way, by the chapter's words.
func isWay(b api.Barn, most bool, bought []int) bool {
	if len(bought) != len(b.Days) {
		return false
	}
	for t, i := range bought {
		if needOf(b, most, t) == 0 && i != -1 {
			return false
		}
		if needOf(b, most, t) > 0 && !canBuy(b, i, t) {
			return false
		}
	}
	return true
}

// daysOf returns the days that occur in a way, in increasing order.
func daysOf(bought []int) []int {
	days := slices.DeleteFunc(slices.Clone(bought), func(i int) bool { return i < 0 })
	slices.Sort(days)
	return slices.Compact(days)
}

// costOf returns what a way costs.
func costOf(b api.Barn, most bool, bought []int) int {
	sum := 0
	for t, i := range bought {
		if i >= 0 {
			sum += costOn(b, most, i, t)
		}
	}
	for _, i := range daysOf(bought) {
		sum += b.Days[i].Fare
	}
	return sum
}

// priced is a way with what it costs.
type priced struct {
	bought []int
	cost   int
}

// pricedWays returns all ways of a barn, the cheapest ones first.
func pricedWays(b api.Barn, most bool) []priced {
	var all []priced
	for _, w := range ways(b, most) {
		all = append(all, priced{w, costOf(b, most, w)})
	}
	slices.SortStableFunc(all, func(x, y priced) int { return cmp.Compare(x.cost, y.cost) })
	return all
}

// cheapestOf returns those of all ways that cost least.
func cheapestOf(all []priced) []priced {
	n := 0
	for n < len(all) && all[n].cost == all[0].cost {
		n++
	}
	return all[:n]
}

// through returns the cost of a cheapest one of all ways in which a day occurs, and whether there is one.
func through(all []priced, day int) (int, bool) {
	for _, w := range all {
		if slices.Contains(w.bought, day) {
			return w.cost, true
		}
	}
	return 0, false
}

// proves says whether prices prove that a way is a cheapest one, by the chapter's words.
func proves(b api.Barn, most bool, cost int, prices []int) bool {
	if len(prices) != len(b.Days) {
		return false
	}
	sum := 0
	for t, y := range prices {
		if y < -1<<40 || y > 1<<40 || needOf(b, most, t) == 0 && y != 0 {
			return false
		}
		sum += y
	}
	if sum != cost {
		return false
	}
	for i, m := range b.Days {
		for a := i; !m.Closed && a < len(b.Days); a++ {
			told, costs := 0, m.Fare
			for z := a; z < len(b.Days) && z <= i+b.Keep; z++ {
				told += prices[z]
				costs += needOf(b, most, z) * (m.Price + (z-i)*b.Night)
				if told > costs {
					return false
				}
			}
		}
	}
	return true
}

// isProved says whether lots are what CheckBest must accept.
func isProved(b api.Barn, most bool, l api.Lots) bool {
	return isWay(b, most, l.Bought) && l.Cost == costOf(b, most, l.Bought) && proves(b, most, l.Cost, l.Prices)
}

// none is more than anything costs.
const none = math.MaxInt / 2

// byMarkets returns what a cheapest way costs, and for each day what a cheapest one costs in which it occurs, or none: each set of days to buy on is tried, and on each day the cheapest one of them is bought for it, but for one for which it is bought on the day that must occur.
func byMarkets(b api.Barn, most bool) (int, []int) {
	best, with := none, slices.Repeat([]int{none}, len(b.Days))
	for set := range 1 << len(b.Days) {
		sum, moved := 0, slices.Repeat([]int{none}, len(b.Days))
		for i := range b.Days {
			if set>>i&1 == 1 {
				sum += b.Days[i].Fare
			}
		}
		for t := range b.Days {
			least := none
			for i := range b.Days {
				if set>>i&1 == 1 && canBuy(b, i, t) {
					least = min(least, costOn(b, most, i, t))
				}
			}
			if needOf(b, most, t) == 0 {
				continue
			}
			for i := range b.Days {
				if set>>i&1 == 1 && canBuy(b, i, t) {
					moved[i] = min(moved[i], costOn(b, most, i, t)-least)
				}
			}
			sum = min(none, sum+least)
		}
		best = min(best, sum)
		for i := range b.Days {
			with[i] = min(with[i], sum+moved[i], none)
		}
	}
	return best, with
}

// ledgerOf returns some ledger with IDs up to a greatest one, on days up to a last one; most of its lines are of grain.
func (d *dice) ledgerOf(lines, ids, last int) []api.Line {
	var l []api.Line
	for len(l) < lines {
		x := api.Line{ID: 1 + d.roll(ids), Day: d.roll(last + 1), Kind: 1 + d.roll(4)}
		if d.roll(2) == 0 {
			x.Kind = 1 + d.roll(2)
		}
		switch x.Kind {
		case api.LnBuy:
			x.Bushels, x.Pence = 1+d.roll(12), d.roll(9)
		case api.LnFeed:
			x.Bushels = 1 + d.roll(5)
		default:
			x.Pence = 1 + d.roll(9)
		}
		if !slices.ContainsFunc(l, func(y api.Line) bool { return y.ID == x.ID }) {
			l = append(l, x)
		}
	}
	return l
}

// history is what happens in a barn by a ledger, day after day: what is there behind each day, what has gone bad up to it, and how much less there is than is fed. Each bushel is looked at for itself.
type history struct{ there, bad, lack []int }

// historyOf returns what happens in a barn by a ledger.
func historyOf(l []api.Line, keep int) history {
	var h history
	var barn []int // of each bushel: the day on which it was bought
	bad := 0
	for day := range api.MaxDay + 1 {
		var left []int
		for _, bought := range barn {
			if bought+keep+1 == day {
				bad++
			} else {
				left = append(left, bought)
			}
		}
		barn = left
		fed := 0
		for _, x := range l {
			if x.Day == day && x.Kind == api.LnBuy {
				barn = append(barn, slices.Repeat([]int{day}, x.Bushels)...)
			}
			if x.Day == day && x.Kind == api.LnFeed {
				fed += x.Bushels
			}
		}
		slices.Sort(barn)
		out := min(fed, len(barn))
		barn = barn[out:]
		h.there, h.bad, h.lack = append(h.there, len(barn)), append(h.bad, bad), append(h.lack, fed-out)
	}
	return h
}
