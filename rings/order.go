package rings

import (
	"iter"

	"potence/api"
)

// step is a sighting and the one that comes next after it, by their indices.
type step struct{ before, after int }

// order is which of so many sightings may come next after which ones, by their indices.
type order struct {
	seen int
	may  [api.MaxSeen][api.MaxSeen]bool
}

// newOrder returns the order of a roll, which must have no errors: each sighting may come next that can follow.
func newOrder(r api.Roll) *order {
	o := &order{seen: len(r.Seen)}
	for a, before := range r.Seen {
		for b, after := range r.Seen {
			o.may[a][b] = canFollow(r.Moves, before, after)
		}
	}
	return o
}

// later yields the sightings that may come next after one.
func (o *order) later(a int) iter.Seq[int] {
	return func(yield func(int) bool) {
		for b := range o.seen {
			if o.may[a][b] && !yield(b) {
				return
			}
		}
	}
}

// steps yields all steps of an order.
func (o *order) steps() iter.Seq[step] {
	return func(yield func(step) bool) {
		for a := range o.seen {
			for b := range o.later(a) {
				if !yield(step{a, b}) {
					return
				}
			}
		}
	}
}

// without returns an order that lacks some of the steps.
func (o *order) without(lacks func(s step) bool) *order {
	left := *o
	for s := range o.steps() {
		left.may[s.before][s.after] = !lacks(s)
	}
	return &left
}

// none stands for no sighting.
const none = -1

// way is which sighting comes next after each one, and after which one it comes itself, or none.
type way struct {
	next, last [api.MaxSeen]int
	// tried is which sightings the last search of fewest came to, which found nothing to improve.
	tried [api.MaxSeen]bool
}

// alone returns the way in which each sighting is a chain.
func alone() way {
	var w way
	for i := range w.next {
		w.next[i], w.last[i] = none, none
	}
	return w
}

// cut takes from a way the steps that an order lacks.
func (w *way) cut(o *order) {
	for a, b := range w.next {
		if b != none && !o.may[a][b] {
			w.next[a], w.last[b] = none, none
		}
	}
}

// fewest returns a fewest way by an order: one in which no chain can be hung behind another one, not even if sightings give up, one for the other, what comes next after them. It begins with what is left of another way, to find it sooner.
func (o *order) fewest(w way) way {
	w.cut(o)
	var hang func(a int) bool
	hang = func(a int) bool {
		for b := range o.later(a) {
			if w.tried[b] {
				continue
			}
			w.tried[b] = true
			if w.last[b] == none || hang(w.last[b]) {
				w.next[a], w.last[b] = b, a
				return true
			}
		}
		return false
	}
improving:
	for {
		clear(w.tried[:])
		for a := range o.seen {
			if w.next[a] == none && hang(a) {
				continue improving
			}
		}
		return w
	}
}

// firsts returns the sightings that stand first in the chains of a way of so many sightings.
func (w *way) firsts(seen int) []int {
	var firsts []int
	for b := range seen {
		if w.last[b] == none {
			firsts = append(firsts, b)
		}
	}
	return firsts
}

// isApart says whether a sighting is one of those, one in each chain of a fewest way, no two of which can be of one bird.
//
// The last search went on from the last sighting of each chain, and from the one before each that it tried; and it tried all that may come next after one it went on from. So, of sightings that it went on from but did not try, none can follow another one. Each chain has one: back from its last sighting the search went on from each one up to the first it had not tried, which there is, because it would have hung the chain elsewhere if it had come to its beginning.
func (w *way) isApart(a int) bool {
	return !w.tried[a] && (w.next[a] == none || w.tried[w.next[a]])
}
