package rings_test

import (
	"math"
	"slices"
	"testing"

	"potence/api"
	"potence/rings"
)

func TestLevels(t *testing.T) {
	l, e := rings.Levels(example())
	same(t, "P5.7: Levels", l, e, 1, 2, 3, 2, 4)
	l, e = rings.Longest(example())
	same(t, "P5.7: Longest", l, e, 1, 2, 3, 5)
	l, e = rings.Levels(mixed())
	same(t, "P5.7: Levels in another order", l, e, 2, 2, 3, 1, 4)
	l, e = rings.Longest(mixed())
	same(t, "P5.7: Longest in another order", l, e, 9, 8, 7, 5)
	l, e = rings.Levels(api.Roll{Moves: 3})
	same(t, "P5.7: Levels of nothing", l, e)
	l, e = rings.Longest(api.Roll{Moves: 3})
	same(t, "P5.7: Longest of nothing", l, e)
	l, e = rings.Levels(flat())
	same(t, "P5.7: Levels of one day", l, e, slices.Repeat([]int{1}, 40)...)
	if l, e = rings.Longest(flat()); e != api.OK || len(l) != 1 || !isChain(flat(), l) {
		t.Error("P5.7: Longest of one day:", l, e)
	}
	r := full()
	slices.Reverse(r.Seen)
	l, e = rings.Longest(r)
	want := idsOf(r)
	slices.Reverse(want)
	same(t, "P5.7: Longest of forty", l, e, want...)
	l, e = rings.Levels(r)
	if e != api.OK || len(l) != 40 || l[0] != 40 || l[39] != 1 {
		t.Error("P5.7: Levels of forty:", l, e)
	}
}

func TestCheckLevels(t *testing.T) {
	for _, x := range []struct {
		what          string
		chain, levels []int
		e             api.Errno
	}{
		{"the example", []int{1, 2, 3, 5}, []int{1, 2, 3, 2, 4}, api.OK},
		{"another level", []int{1, 2, 3, 5}, []int{1, 2, 3, 3, 4}, api.OK},
		{"a level that is not increased", []int{1, 2, 3, 5}, []int{1, 2, 2, 2, 4}, api.ErrProof},
		{"a level that is not increased further on", []int{1, 2, 3, 5}, []int{2, 3, 4, 2, 4}, api.ErrProof},
		{"the same level for what can follow", []int{1, 2, 3, 5}, []int{1, 2, 3, 4, 4}, api.ErrProof},
		{"a level too low", []int{1, 2, 3, 5}, []int{0, 2, 3, 2, 4}, api.ErrProof},
		{"a level far too low", []int{1, 2, 3, 5}, []int{math.MinInt, 2, 3, 2, 4}, api.ErrProof},
		{"a level too high", []int{1, 2, 3, 5}, []int{1, 2, 3, 2, 5}, api.ErrProof},
		{"a level far too high", []int{1, 2, 3, 5}, []int{1, 2, 3, 2, math.MaxInt}, api.ErrProof},
		{"a shorter chain", []int{1, 2, 3}, []int{1, 2, 3, 2, 4}, api.ErrProof},
		{"a shorter chain, and fewer levels", []int{1, 2, 3}, []int{1, 2, 3, 2, 3}, api.ErrProof},
		{"a shorter chain, and no level more", []int{1, 4, 5}, []int{1, 1, 2, 2, 3}, api.ErrProof},
		{"no chain", []int{1, 2, 3, 4}, []int{1, 2, 3, 2, 4}, api.ErrProof},
		{"a chain the other way round", []int{5, 3, 2, 1}, []int{1, 2, 3, 2, 4}, api.ErrProof},
		{"no sighting", []int{1, 2, 3, 6}, []int{1, 2, 3, 2, 4}, api.ErrProof},
		{"no sighting, ahead", []int{0, 2, 3, 5}, []int{1, 2, 3, 2, 4}, api.ErrProof},
		{"a sighting twice", []int{1, 2, 2, 3, 5}, []int{1, 2, 3, 2, 5}, api.ErrProof},
		{"no chain at all", nil, []int{1, 2, 3, 2, 4}, api.ErrProof},
		{"a level less", []int{1, 2, 3, 5}, []int{1, 2, 3, 2}, api.ErrProof},
		{"a level more", []int{1, 2, 3, 5}, []int{1, 2, 3, 2, 4, 4}, api.ErrProof},
		{"no levels", []int{1, 2, 3, 5}, nil, api.ErrProof},
		{"nothing", nil, nil, api.ErrProof},
	} {
		fails(t, "P5.7: "+x.what, rings.CheckLevels(example(), x.chain, x.levels), x.e)
	}
	nothing := api.Roll{}
	fails(t, "P5.7: nothing of nothing", rings.CheckLevels(nothing, nil, []int{}), api.OK)
	fails(t, "P5.7: a chain of nothing", rings.CheckLevels(nothing, []int{1}, nil), api.ErrProof)
	fails(t, "P5.7: levels of nothing", rings.CheckLevels(nothing, nil, []int{1}), api.ErrProof)
	fails(t, "P5.7: levels and a chain of nothing", rings.CheckLevels(nothing, []int{1}, []int{1}), api.ErrProof)
}

// isShown says whether a chain and levels show that no chain is longer.
func isShown(r api.Roll, chain, levels []int) bool {
	if len(levels) != len(r.Seen) || !isChain(r, chain) && len(chain)+len(r.Seen) > 0 {
		return false
	}
	for i, a := range r.Seen {
		if levels[i] < 1 || levels[i] > len(chain) {
			return false
		}
		for j, b := range r.Seen {
			if follows(r.Moves, a, b) && levels[j] <= levels[i] {
				return false
			}
		}
	}
	return true
}

// bend returns a chain and levels with some change.
func (d *dice) bend(r api.Roll, chain, levels []int) ([]int, []int) {
	chain, levels = slices.Clone(chain), slices.Clone(levels)
	if len(chain) == 0 {
		return chain, levels
	}
	i, j := d.roll(len(chain)), d.roll(len(levels))
	switch d.roll(6) {
	case 0:
		chain[i] = r.Seen[j].ID
	case 1:
		chain = slices.Delete(chain, i, i+1)
	case 2:
		chain = slices.Insert(chain, i, r.Seen[j].ID)
	case 3:
		chain = chain[i:]
		for k := range levels {
			levels[k] = max(levels[k]-i, 1)
		}
	default:
		levels[j] += d.roll(5) - 2
	}
	return chain, levels
}

// checkLongest holds Longest and Levels of a roll against its sightings.
func checkLongest(t *testing.T, r api.Roll) {
	t.Helper()
	chain, e := rings.Longest(r)
	levels, f := rings.Levels(r)
	if e != api.OK || f != api.OK || !isShown(r, chain, levels) {
		t.Fatalf("P5.7: of %v: %v and %v, errors %d and %d", r, chain, levels, e, f)
	}
	fails(t, "P5.14: CheckLevels of Longest and Levels", rings.CheckLevels(r, chain, levels), api.OK)
	n, _ := rings.Count(r)
	of := map[int][]int{}
	for i, s := range r.Seen {
		of[levels[i]] = append(of[levels[i]], s.ID)
	}
	if len(of) > len(chain) {
		t.Fatalf("P5.14: of %v: %d levels, %d in a chain", r, len(of), len(chain))
	}
	for _, ids := range of {
		if !areApart(r, ids) || len(ids) > n {
			t.Fatalf("P5.14: of %v: %v are of one level, of %d birds", r, ids, n)
		}
	}
}

func TestLevelsOfAllRolls(t *testing.T) {
	d := dice(10)
	var accepted, refused int
	for range 1500 {
		r := d.rolled(8)
		checkLongest(t, r)
		chain, _ := rings.Longest(r)
		levels, _ := rings.Levels(r)
		longest := 0
		for i, s := range r.Seen {
			if n := longestTo(r, s.ID); levels[i] != n {
				t.Fatalf("P5.7: of %v: %v", r, levels)
			}
			longest = max(longest, levels[i])
		}
		if len(chain) != longest {
			t.Fatalf("P5.7: of %v: %v, and not %d", r, chain, longest)
		}
		for range 10 {
			c, l := d.bend(r, chain, levels)
			e := rings.CheckLevels(r, c, l)
			if isShown(r, c, l) != (e == api.OK) || e != api.OK && e != api.ErrProof {
				t.Fatalf("P5.7: %v and %v of %v: error %d", c, l, r, e)
			}
			if e != api.OK {
				refused++
				continue
			}
			if accepted++; len(c) != longest {
				t.Fatalf("P5.14: %v of %v is accepted: there are %d in a chain", c, r, longest)
			}
		}
	}
	if accepted < 1000 || refused < 1000 {
		t.Error("the chains and levels are too much alike:", accepted, refused)
	}
}

func TestLevelsOfManySightings(t *testing.T) {
	d := dice(11)
	for range 300 {
		r, _ := d.flown(1+d.roll(8), 8+d.roll(33))
		checkLongest(t, r)
	}
}
