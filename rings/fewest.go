package rings

import "potence/api"

// flock is a roll's sightings, what can follow what, a fewest way, and how many chains that has.
type flock struct {
	seen  []api.Seen
	order *order
	way   way
	count int
}

// newFlock returns the flock of a roll, which must have no errors.
func newFlock(r api.Roll) *flock {
	f := &flock{seen: r.Seen, order: newOrder(r)}
	f.way = f.order.fewest(alone())
	f.count = len(f.way.firsts(len(r.Seen)))
	return f
}

// more returns by how many the least number of chains is greater if ways must do without some of the steps.
func (f *flock) more(lacks func(s step) bool) int {
	w := f.order.without(lacks).fewest(f.way)
	return len(w.firsts(len(f.seen))) - f.count
}

// chain returns the IDs of a chain of the fewest way, from one of its sightings on.
func (f *flock) chain(a int) []int {
	if a == none {
		return nil
	}
	return joined([]int{f.seen[a].ID}, f.chain(f.way.next[a]))
}

// Fewest returns the fewest birds that explain all sightings.
func Fewest(r api.Roll) (api.Birds, api.Errno) {
	if e := Check(r); e != api.OK {
		return api.Birds{}, e
	}
	f := newFlock(r)
	var b api.Birds
	for _, first := range f.way.firsts(len(f.seen)) {
		b.Chains = append(b.Chains, f.chain(first))
	}
	apart := idSet()
	for i, s := range f.seen {
		if f.way.isApart(i) {
			apart.add(s.ID)
		}
	}
	b.Apart = apart.list
	return b, api.OK
}

// Count returns how many birds there are at least.
func Count(r api.Roll) (int, api.Errno) {
	if e := Check(r); e != api.OK {
		return 0, e
	}
	return newFlock(r).count, api.OK
}

// Among returns how many birds some sightings are of at least.
func Among(r api.Roll, ids []int) (int, api.Errno) {
	if _, e := find(r, ids...); e != api.OK {
		return 0, e
	}
	if !isIncreasing(ids) {
		return 0, api.ErrArg
	}
	return newFlock(picked(r, ids, true)).count, api.OK
}

// Needed returns the sightings without each of which alone there would be fewer birds.
func Needed(r api.Roll) ([]int, api.Errno) {
	if e := Check(r); e != api.OK {
		return nil, e
	}
	f := newFlock(r)
	needed := idSet()
	for i, seen := range f.seen {
		// One chain less is enough for the others just if this one can be a chain for itself in a fewest way.
		if f.more(func(s step) bool { return s.before == i || s.after == i }) == 0 {
			needed.add(seen.ID)
		}
	}
	return needed.list, api.OK
}
