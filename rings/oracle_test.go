package rings_test

import (
	"slices"

	"potence/api"
)

// dice are numbers that are the same in each run.
type dice uint64

// roll returns a number less than n.
func (d *dice) roll(n int) int {
	*d = *d*6364136223846793005 + 1442695040888963407
	return int(uint64(*d)>>33) % n
}

// shuffle brings a list into some order.
func shuffle[T any](d *dice, l []T) {
	for i := range l {
		j := i + d.roll(len(l)-i)
		l[i], l[j] = l[j], l[i]
	}
}

// ids returns so many different IDs in some order.
func (d *dice) ids(n int) []int {
	var all []int
	for i := range n {
		all = append(all, 3*i+1+d.roll(3))
	}
	shuffle(d, all)
	return all
}

// rings returns some rings, of few colours, of which many are lost.
func (d *dice) rings(colours int) [api.MaxLegs]int {
	var r [api.MaxLegs]int
	for i := range r {
		if d.roll(2) == 0 {
			r[i] = d.roll(colours + 1)
		}
	}
	return r
}

// rolled returns some small roll, of at most so many sightings.
func (d *dice) rolled(most int) api.Roll {
	r := api.Roll{Moves: d.roll(4)}
	days, holes, colours := 1+d.roll(8), 1+d.roll(10), d.roll(3)
	for _, id := range d.ids(d.roll(most + 1)) {
		r.Seen = append(r.Seen, api.Seen{ID: id, Day: d.roll(days), Hole: d.roll(holes), Rings: d.rings(colours)})
	}
	return r
}

// flown returns sightings of so many true birds, which move and lose rings, and the bird of each ID.
func (d *dice) flown(birds, most int) (api.Roll, map[int]int) {
	r, of := api.Roll{Moves: d.roll(6)}, map[int]int{}
	ids := d.ids(most)
	for bird := range birds {
		s := api.Seen{Day: d.roll(20), Hole: 20 + d.roll(60)}
		for i := range s.Rings {
			s.Rings[i] = d.roll(4)
		}
		for range most / birds {
			s.ID, ids = ids[0], ids[1:]
			r.Seen, of[s.ID] = append(r.Seen, s), bird
			days := 1 + d.roll(5)
			s.Day += days
			s.Hole = min(max(s.Hole+d.roll(2*r.Moves*days+1)-r.Moves*days, 0), api.MaxHole)
			if d.roll(3) == 0 {
				s.Rings[d.roll(api.MaxLegs)] = 0
			}
		}
	}
	shuffle(d, r.Seen)
	return r, of
}

// follows says whether a sighting can follow another one.
func follows(moves int, a, b api.Seen) bool {
	if b.Day <= a.Day || a.Hole-b.Hole > moves*(b.Day-a.Day) || b.Hole-a.Hole > moves*(b.Day-a.Day) {
		return false
	}
	for i := range api.MaxLegs {
		if b.Rings[i] != 0 && b.Rings[i] != a.Rings[i] {
			return false
		}
	}
	return true
}

// sighting returns the sighting of a roll with an ID, and whether there is one.
func sighting(r api.Roll, id int) (api.Seen, bool) {
	for _, s := range r.Seen {
		if s.ID == id {
			return s, true
		}
	}
	return api.Seen{}, false
}

// followsID says whether both IDs are those of sightings of which the second one can follow the first one.
func followsID(r api.Roll, a, b int) bool {
	x, is := sighting(r, a)
	y, are := sighting(r, b)
	return is && are && follows(r.Moves, x, y)
}

// idsOf returns the IDs of a roll's sightings in increasing order.
func idsOf(r api.Roll) []int {
	var all []int
	for _, s := range r.Seen {
		all = append(all, s.ID)
	}
	slices.Sort(all)
	return all
}

// isChain says whether a list is a chain.
func isChain(r api.Roll, l []int) bool {
	for i, id := range l {
		if _, is := sighting(r, id); !is || i > 0 && !followsID(r, l[i-1], id) {
			return false
		}
	}
	return len(l) > 0
}

// isWay says whether chains are a way.
func isWay(r api.Roll, chains [][]int) bool {
	times := map[int]int{}
	for _, c := range chains {
		if !isChain(r, c) {
			return false
		}
		for _, id := range c {
			times[id]++
		}
	}
	for _, n := range times {
		if n != 1 {
			return false
		}
	}
	return len(times) == len(r.Seen)
}

// areApart says whether no two of some sightings can be of one bird.
func areApart(r api.Roll, l []int) bool {
	for _, a := range l {
		for _, b := range l {
			if followsID(r, a, b) {
				return false
			}
		}
	}
	return true
}

// allWays returns all ways of a roll.
func allWays(r api.Roll) [][][]int {
	sorted := slices.Clone(r.Seen)
	slices.SortFunc(sorted, func(a, b api.Seen) int { return a.Day - b.Day })
	var all [][][]int
	var chains [][]int
	var list func(i int)
	list = func(i int) {
		if i == len(sorted) {
			all = append(all, cloned(chains))
			return
		}
		id := sorted[i].ID
		for j := range chains {
			c := chains[j] // from where chains lies now: list may have moved it
			if followsID(r, c[len(c)-1], id) {
				chains[j] = append(c, id)
				list(i + 1)
				chains[j] = c
			}
		}
		chains = append(chains, []int{id})
		list(i + 1)
		chains = chains[:len(chains)-1]
	}
	list(0)
	return all
}

// cloned returns a list of lists in new memory.
func cloned(l [][]int) [][]int {
	var all [][]int
	for _, x := range l {
		all = append(all, slices.Clone(x))
	}
	return all
}

// least returns the least number of chains of some ways; a great one if there are none.
func least(ways [][][]int) int {
	n := 1000
	for _, w := range ways {
		n = min(n, len(w))
	}
	return n
}

// fewestOf returns those of some ways that have the fewest chains.
func fewestOf(ways [][][]int) [][][]int {
	return waysWith(ways, func(w [][]int) bool { return len(w) == least(ways) })
}

// waysWith returns those of some ways that have a property.
func waysWith(ways [][][]int, has func(w [][]int) bool) [][][]int {
	var some [][][]int
	for _, w := range ways {
		if has(w) {
			some = append(some, w)
		}
	}
	return some
}

// isNext says whether a sighting comes next after another one in a way.
func isNext(w [][]int, x api.Next) bool {
	for _, c := range w {
		for i := range len(c) - 1 {
			if c[i] == x.Before && c[i+1] == x.After {
				return true
			}
		}
	}
	return false
}

// isFirst says whether a sighting stands first in a chain of a way.
func isFirst(w [][]int, id int) bool {
	return slices.ContainsFunc(w, func(c []int) bool { return c[0] == id })
}

// isLast says whether a sighting stands last in a chain of a way.
func isLast(w [][]int, id int) bool {
	return slices.ContainsFunc(w, func(c []int) bool { return c[len(c)-1] == id })
}

// subsets returns all lists of some numbers, in their order, that leave out any of them.
func subsets(l []int) [][]int {
	all := [][]int{nil}
	for _, x := range l {
		for _, s := range all {
			all = append(all, append(slices.Clone(s), x))
		}
	}
	return all
}

// mostApart returns how many sightings are apart at most.
func mostApart(r api.Roll) int {
	n := 0
	for _, s := range subsets(idsOf(r)) {
		if len(s) > n && areApart(r, s) {
			n = len(s)
		}
	}
	return n
}

// longestTo returns how many sightings a chain has at most that ends with a sighting.
func longestTo(r api.Roll, id int) int {
	n := 0
	for _, s := range r.Seen {
		if followsID(r, s.ID, id) {
			n = max(n, longestTo(r, s.ID))
		}
	}
	return n + 1
}

// drop returns a roll without the sightings with some IDs.
func drop(r api.Roll, ids ...int) api.Roll {
	r.Seen = slices.DeleteFunc(slices.Clone(r.Seen), func(s api.Seen) bool { return slices.Contains(ids, s.ID) })
	return r
}

// only returns a roll with just the sightings with some IDs.
func only(r api.Roll, ids []int) api.Roll {
	r.Seen = slices.DeleteFunc(slices.Clone(r.Seen), func(s api.Seen) bool { return !slices.Contains(ids, s.ID) })
	return r
}

// allPairs returns all pairs of sightings of a roll, in order.
func allPairs(r api.Roll) []api.Next {
	var all []api.Next
	for _, a := range idsOf(r) {
		for _, b := range idsOf(r) {
			all = append(all, api.Next{Before: a, After: b})
		}
	}
	return all
}
