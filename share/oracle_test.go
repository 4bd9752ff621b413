package share_test

import (
	"math"
	"slices"

	"potence/api"
)

// dice are numbers that are the same in each run.
type dice uint64

// roll returns a number less than n.
func (d *dice) roll(n int) int {
	*d = *d*6364136223846793005 + 1442695040888963407
	return int(uint64(*d)>>33) % n
}

// worths returns at most so many Worths, of so many kinds.
func (d *dice) worths(most, kinds int) []int {
	var l []int
	for range max(d.roll(most+1), d.roll(most+1)) {
		l = append(l, d.roll(kinds)-2)
	}
	slices.Sort(l)
	slices.Reverse(l)
	return l
}

// frame returns so many perches with any numbers; each hole has at most so many Worths.
func (d *dice) frame(perches, most int) api.Loft {
	l := api.Loft{Perches: []api.Perch{{Above: -1}}}
	inner, deep, kinds := 1+d.roll(perches), 1+d.roll(5), 1+d.roll(9)
	for i := 1; i < perches; i++ {
		above := d.roll(min(i, inner))
		if d.roll(deep) > 2 {
			above = i - 1
		}
		l.Perches = append(l.Perches, api.Perch{Above: above})
	}
	for i := range l.Perches {
		p := &l.Perches[i]
		p.ID = 3*(perches-i) + d.roll(3)
		p.Least = d.roll(2) * d.roll(3)
		p.Most = p.Least + d.roll(2*most)
		if isHole(l, i) {
			p.Worths = d.worths(most, kinds)
		}
	}
	return l
}

// rolled returns some small loft. Mostly there is a taking, because the numbers of the perches lie about those of some one.
func (d *dice) rolled() api.Loft {
	l := d.frame(1+max(d.roll(8), d.roll(8)), 3)
	if d.roll(5) > 0 {
		d.loosen(l, 2+d.roll(6))
	}
	return l
}

// loosen gives the perches of a loft other numbers, about those of a taking, which are not further away than so many.
func (d *dice) loosen(l api.Loft, by int) {
	given := make([]int, len(l.Perches))
	for i := len(given) - 1; i >= 0; i-- {
		p := &l.Perches[i]
		if isHole(l, i) {
			given[i] = d.roll(len(p.Worths) + 1)
		}
		p.Least, p.Most = max(0, given[i]-d.roll(by)), given[i]+d.roll(by)
		if i > 0 {
			given[p.Above] += given[i]
		}
	}
}

// isHole says whether nothing lies in a perch.
func isHole(l api.Loft, at int) bool {
	return !slices.ContainsFunc(l.Perches, func(p api.Perch) bool { return p.Above == at })
}

// byItself returns all lists of numbers that a perch, and all within it, can give by itself alone; the others have 0 in them.
func byItself(l api.Loft, at int) [][]int {
	p := l.Perches[at]
	lists := [][]int{make([]int, len(l.Perches))}
	if isHole(l, at) {
		lists = nil
		for n := range p.Worths {
			lists = append(lists, make([]int, len(l.Perches)))
			lists[n][at] = n
		}
		lists = append(lists, make([]int, len(l.Perches)))
		lists[len(p.Worths)][at] = len(p.Worths)
	}
	for i, child := range l.Perches {
		if child.Above == at {
			lists = together(lists, byItself(l, i), at, i)
		}
	}
	return slices.DeleteFunc(lists, func(g []int) bool { return g[at] < p.Least || g[at] > p.Most })
}

// together returns each list of the first ones with each one of the second ones, those of a perch that lies in another one.
func together(a, b [][]int, above, at int) [][]int {
	var all [][]int
	for _, x := range a {
		for _, y := range b {
			z := slices.Clone(x)
			for i := range z {
				z[i] += y[i]
			}
			z[above] += y[at]
			all = append(all, z)
		}
	}
	return all
}

// takings returns all takings of a loft.
func takings(l api.Loft) [][]int { return byItself(l, 0) }

// isTaking says whether a list is a taking, by the chapter's words.
func isTaking(l api.Loft, given []int) bool {
	if len(given) != len(l.Perches) {
		return false
	}
	for i, p := range l.Perches {
		if given[i] < p.Least || given[i] > p.Most || isHole(l, i) && given[i] > len(p.Worths) {
			return false
		}
		sum := 0
		for j, child := range l.Perches {
			if child.Above == i {
				sum += given[j]
			}
		}
		if !isHole(l, i) && given[i] != sum {
			return false
		}
	}
	return true
}

// worthOf returns what a taking is worth.
func worthOf(l api.Loft, given []int) int {
	sum := 0
	for i, p := range l.Perches {
		for n, w := range p.Worths {
			if n < given[i] {
				sum += w
			}
		}
	}
	return sum
}

// bestOf returns those of some takings with so many birds that are worth most, and what they are worth.
func bestOf(l api.Loft, all [][]int, birds int) ([][]int, int) {
	var best [][]int
	most := math.MinInt
	for _, g := range all {
		if g[0] != birds {
			continue
		}
		w := worthOf(l, g)
		if w > most {
			best, most = nil, w
		}
		if w == most {
			best = append(best, g)
		}
	}
	return best, most
}

// spanOf returns the least and the greatest number that a perch gives in some lists.
func spanOf(lists [][]int, at int) api.Span {
	s := api.Span{Lo: math.MaxInt, Hi: math.MinInt}
	for _, g := range lists {
		s.Lo, s.Hi = min(s.Lo, g[at]), max(s.Hi, g[at])
	}
	return s
}

// proves says whether prices prove that a taking is a best one, by the chapter's words.
func proves(l api.Loft, given, prices []int) bool {
	if len(prices) != len(l.Perches) {
		return false
	}
	for i, p := range l.Perches {
		x, price := given[i], prices[i]
		if price < -1<<20 || price > 1<<20 {
			return false
		}
		if i > 0 && price > prices[p.Above] && x != p.Most {
			return false
		}
		if i > 0 && price < prices[p.Above] && x != p.Least {
			return false
		}
		if isHole(l, i) && x != 0 && p.Worths[x-1] < price {
			return false
		}
		if isHole(l, i) && len(p.Worths) > x && p.Worths[x] > price {
			return false
		}
	}
	return true
}

// isProved says whether a taking is what CheckBest must accept.
func isProved(l api.Loft, t api.Taken) bool {
	return isTaking(l, t.Given) && t.Worth == worthOf(l, t.Given) && proves(l, t.Given, t.Prices)
}

// never is less than anything is worth.
const never = math.MinInt / 2

// tableOf returns, for each number that a perch can give by itself alone, what it is worth at most, and never for the others: each way to part a number among what lies in it is tried.
func tableOf(l api.Loft, at int) []int {
	p := l.Perches[at]
	table := []int{0}
	for _, w := range p.Worths {
		table = append(table, table[len(table)-1]+w)
	}
	for i, child := range l.Perches {
		if child.Above != at {
			continue
		}
		more := tableOf(l, i)
		sums := slices.Repeat([]int{never}, len(table)+len(more)-1)
		for a, x := range table {
			for b, y := range more {
				if x != never && y != never {
					sums[a+b] = max(sums[a+b], x+y)
				}
			}
		}
		table = sums
	}
	for n := range table {
		if n < p.Least || n > p.Most {
			table[n] = never
		}
	}
	return table
}

// worthAt returns what a table has for a number, and never if it has none.
func worthAt(table []int, n int) int {
	if n < 0 || n >= len(table) {
		return never
	}
	return table[n]
}

// cloned returns a loft in new memory.
func cloned(l api.Loft) api.Loft {
	l.Perches = slices.Clone(l.Perches)
	for i, p := range l.Perches {
		l.Perches[i].Worths = slices.Clone(p.Worths)
	}
	return l
}

// limited returns a loft in which a perch gives other numbers.
func limited(l api.Loft, at, least, most int) api.Loft {
	l = cloned(l)
	l.Perches[at].Least, l.Perches[at].Most = least, most
	return l
}

// reordered returns a loft whose perches stand in some other order, each one behind the one in which it lies.
func (d *dice) reordered(l api.Loft) api.Loft {
	var other api.Loft
	at := map[int]int{-1: -1}
	for len(other.Perches) < len(l.Perches) {
		i := d.roll(len(l.Perches))
		above, is := at[l.Perches[i].Above]
		if _, stands := at[i]; !is || stands {
			continue
		}
		at[i] = len(other.Perches)
		p := l.Perches[i]
		p.Above = above
		other.Perches = append(other.Perches, p)
	}
	return other
}
