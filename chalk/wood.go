package chalk

import (
	"cmp"
	"iter"
	"slices"

	"potence/api"
)

// choice is a cheapest way to make a symbol of a part, with the numbers of the places of its items that are symbols.
type choice struct {
	way   way
	below []int
}

// wood is all cheapest trees of a mark: its places, each behind those that cost less, and the choices of each one. What is below a place costs less than it does, so that it stands before it, and the place of the whole mark is the last one.
type wood struct {
	places  []api.Place
	choices [][]choice
}

// top returns the number of the place of the whole mark.
func (w wood) top() int { return len(w.places) - 1 }

// cheapest yields the ways to make a symbol of a part that cost least.
func (r *reading) cheapest(p api.Place) iter.Seq[way] {
	return func(yield func(way) bool) {
		for w := range r.ways(p) {
			if r.cost(w) == r.at(p) && !yield(w) {
				return
			}
		}
	}
}

// below yields the places of the items of a way that are symbols.
func (r *reading) below(w way) iter.Seq[api.Place] {
	return func(yield func(api.Place) bool) {
		for i, x := range r.makings[w.making].items {
			switch x := x.(type) {
			case symbol:
				p := w.part(i)
				if !yield(api.Place{Symbol: int(x), From: p.from, To: p.to}) {
					return
				}
			}
		}
	}
}

// wood returns all cheapest trees of a mark that has some.
func (r *reading) wood() wood {
	var w wood
	ways := map[api.Place][]way{r.whole(): nil}
	for open := []api.Place{r.whole()}; len(open) > 0; {
		p := open[len(open)-1]
		open = open[:len(open)-1]
		w.places = append(w.places, p)
		for x := range r.cheapest(p) {
			ways[p] = append(ways[p], x)
			for q := range r.below(x) {
				if _, ok := ways[q]; !ok {
					ways[q] = nil
					open = append(open, q)
				}
			}
		}
	}
	slices.SortFunc(w.places, func(p, q api.Place) int {
		return cmp.Or(cmp.Compare(r.at(p), r.at(q)), compare(p, q))
	})
	number := map[api.Place]int{}
	for i, p := range w.places {
		number[p] = i
	}
	for _, p := range w.places {
		var choices []choice
		for _, x := range ways[p] {
			c := choice{way: x}
			for q := range r.below(x) {
				c.below = append(c.below, number[q])
			}
			choices = append(choices, c)
		}
		w.choices = append(w.choices, choices)
	}
	return w
}

// compare orders places by their Symbol, then From, then To.
func compare(p, q api.Place) int {
	return cmp.Or(cmp.Compare(p.Symbol, q.Symbol), cmp.Compare(p.From, q.From), cmp.Compare(p.To, q.To))
}

// grown returns a value for each place, which is made of those of the places below it.
func grown[T any](w wood, value func(place int, of []T) T) []T {
	of := make([]T, len(w.places))
	for i := range w.places {
		of[i] = value(i, of)
	}
	return of
}

// without says whether a cheapest tree has only choices that are allowed.
func (w wood) without(allowed func(place int, c choice) bool) bool {
	can := grown(w, func(place int, of []bool) bool {
		return slices.ContainsFunc(w.choices[place], func(c choice) bool {
			return allowed(place, c) && !slices.ContainsFunc(c.below, func(b int) bool { return !of[b] })
		})
	})
	return can[w.top()]
}

// Possible returns the symbols, with their parts, that some cheapest tree has.
func Possible(g api.Grammar, mark []int) ([]api.Place, api.Errno) {
	r, e := readSome(g, mark)
	if e != api.OK {
		return nil, e
	}
	places := r.wood().places
	slices.SortFunc(places, compare)
	return places, api.OK
}

// Sure returns the symbols, with their parts, that all cheapest trees have.
func Sure(g api.Grammar, mark []int) ([]api.Place, api.Errno) {
	r, e := readSome(g, mark)
	if e != api.OK {
		return nil, e
	}
	w := r.wood()
	var sure []api.Place
	for i, p := range w.places {
		if !w.without(func(place int, _ choice) bool { return place != i }) {
			sure = append(sure, p)
		}
	}
	slices.SortFunc(sure, compare)
	return sure, api.OK
}

// Needed returns the makings without each of which the cheapest trees cost more.
func Needed(g api.Grammar, mark []int) ([]int, api.Errno) {
	r, e := readSome(g, mark)
	if e != api.OK {
		return nil, e
	}
	w := r.wood()
	var needed []int
	for i := range g.Makings {
		// Without the making the least cost is the same exactly if a cheapest tree lacks it.
		if !w.without(func(_ int, c choice) bool { return c.way.making != i }) {
			needed = append(needed, i)
		}
	}
	return needed, api.OK
}

// Count returns how many cheapest trees there are.
func Count(g api.Grammar, mark []int) (int, api.Errno) {
	r, e := readSome(g, mark)
	if e == api.ErrNone {
		return 0, api.OK
	}
	if e != api.OK {
		return 0, e
	}
	w := r.wood()
	count := grown(w, func(place int, of []int) int {
		n := 0
		for _, c := range w.choices[place] {
			trees := 1
			for _, b := range c.below {
				trees *= of[b] // at most MaxItems numbers, each at most MaxTrees
			}
			n = min(n+trees, api.MaxTrees)
		}
		return n
	})
	return count[w.top()], api.OK
}

// rises returns how much more the second cheapest trees of each place cost than the cheapest ones: none where there are none.
func (r *reading) rises(w wood) []int {
	return grown(w, func(place int, of []int) int {
		p := w.places[place]
		dearer := least(r.ways(p), func(x way) int {
			n := r.cost(x)
			if n == none || n == r.at(p) {
				return none
			}
			return n - r.at(p)
		})
		// A tree that begins with a cheapest way is a second one if just one tree below is, and the others are cheapest ones.
		below := least(slices.Values(w.choices[place]), func(c choice) int {
			return least(slices.Values(c.below), func(b int) int { return of[b] })
		})
		return min(dearer, below)
	})
}

// Next returns the least cost of a tree that is not a cheapest one.
func Next(g api.Grammar, mark []int) (int, api.Errno) {
	r, e := readSome(g, mark)
	if e != api.OK {
		return 0, e
	}
	w := r.wood()
	rise := r.rises(w)[w.top()]
	if rise == none {
		return 0, api.ErrNone
	}
	return r.at(r.whole()) + rise, api.OK
}
