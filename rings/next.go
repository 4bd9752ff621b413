package rings

import "potence/api"

// made returns by how many the least number of chains is greater if a step is taken: nothing else comes next after the one, nor it after anything else.
func (f *flock) made(x step) int {
	return f.more(func(s step) bool { return (s.before == x.before) != (s.after == x.after) })
}

// missed returns by how many the least number of chains is greater if a step is not taken.
func (f *flock) missed(x step) int {
	return f.more(func(s step) bool { return s == x })
}

// isSure says whether a step is one of all fewest ways.
func (f *flock) isSure(x step) bool { return f.missed(x) > 0 }

// isPossible says whether a step is one of some fewest way.
func (f *flock) isPossible(x step) bool { return f.made(x) == 0 }

// pairs returns the steps of a roll that have a property, as pairs of IDs in order.
func pairs(r api.Roll, has func(f *flock, x step) bool) ([]api.Next, api.Errno) {
	if e := Check(r); e != api.OK {
		return nil, e
	}
	f := newFlock(r)
	all := nextSet()
	for x := range f.order.steps() {
		if has(f, x) {
			all.add(api.Next{Before: f.seen[x.before].ID, After: f.seen[x.after].ID})
		}
	}
	return all.list, api.OK
}

// Surely returns the pairs of sightings that follow each other in all fewest ways.
func Surely(r api.Roll) ([]api.Next, api.Errno) { return pairs(r, (*flock).isSure) }

// Possibly returns the pairs of sightings that follow each other in some fewest way.
func Possibly(r api.Roll) ([]api.Next, api.Errno) { return pairs(r, (*flock).isPossible) }

// Made returns how many more birds there are at least if a sighting is the next one of another one.
func Made(r api.Roll, x api.Next) (int, api.Errno) {
	at, e := find(r, x.Before, x.After)
	if e != api.OK {
		return 0, e
	}
	f, s := newFlock(r), step{at[0], at[1]}
	if !f.order.may[s.before][s.after] {
		return 0, api.ErrProof
	}
	return f.made(s), api.OK
}

// Missed returns how many more birds there are at least if a sighting is not the next one of another one.
func Missed(r api.Roll, x api.Next) (int, api.Errno) {
	at, e := find(r, x.Before, x.After)
	if e != api.OK {
		return 0, e
	}
	return newFlock(r).missed(step{at[0], at[1]}), api.OK
}

// outmost returns the sightings that have no step in all fewest ways, and in some; of tells which steps count for a sighting.
func outmost(r api.Roll, of func(x step) int) ([]int, []int, api.Errno) {
	if e := Check(r); e != api.OK {
		return nil, nil, e
	}
	f := newFlock(r)
	var steps [api.MaxSeen]bool
	for x := range f.order.steps() {
		if f.isPossible(x) {
			steps[of(x)] = true
		}
	}
	all, some := idSet(), idSet()
	for i, seen := range f.seen {
		if !steps[i] {
			all.add(seen.ID)
		}
		if f.more(func(x step) bool { return of(x) == i }) == 0 {
			some.add(seen.ID)
		}
	}
	return all.list, some.list, api.OK
}

// Firsts returns the sightings that are a bird's first one in all fewest ways, and in some.
func Firsts(r api.Roll) ([]int, []int, api.Errno) {
	return outmost(r, func(x step) int { return x.after })
}

// Lasts returns the sightings that are a bird's last one in all fewest ways, and in some.
func Lasts(r api.Roll) ([]int, []int, api.Errno) {
	return outmost(r, func(x step) int { return x.before })
}
