package rings_test

import (
	"slices"
	"testing"

	"potence/api"
	"potence/rings"
)

// turned returns a pair of the examples as one of the same roll with other IDs.
func turned(x api.Next) api.Next { return api.Next{Before: 10 - x.Before, After: 10 - x.After} }

func TestSurelyAndPossibly(t *testing.T) {
	l, e := rings.Surely(example())
	same(t, "P5.4: Surely", l, e, api.Next{Before: 2, After: 3})
	l, e = rings.Possibly(example())
	same(t, "P5.4: Possibly", l, e, []api.Next{{Before: 1, After: 2}, {Before: 1, After: 4}, {Before: 2, After: 3}, {Before: 3, After: 5}, {Before: 4, After: 5}}...)
	l, e = rings.Surely(mixed())
	same(t, "P5.4: Surely in another order", l, e, api.Next{Before: 8, After: 7})
	l, e = rings.Possibly(mixed())
	same(t, "P5.4: Possibly in another order", l, e, []api.Next{{Before: 6, After: 5}, {Before: 7, After: 5}, {Before: 8, After: 7}, {Before: 9, After: 6}, {Before: 9, After: 8}}...)
	for _, r := range []api.Roll{{}, flat()} {
		l, e = rings.Surely(r)
		same(t, "P5.4: Surely of what nothing can follow", l, e)
		l, e = rings.Possibly(r)
		same(t, "P5.4: Possibly of what nothing can follow", l, e)
	}
	for _, next := range []func(r api.Roll) ([]api.Next, api.Errno){rings.Surely, rings.Possibly} {
		l, e = next(full())
		if e != api.OK || len(l) != 39 {
			t.Error("P5.4: one bird:", l, e)
		}
		for i, x := range l {
			if x.Before != api.MaxID-38+i || x.After != x.Before-1 {
				t.Error("P5.4: one bird:", l)
			}
		}
	}
}

func TestMadeAndMissed(t *testing.T) {
	for _, x := range []struct{ a, b, made, missed int }{
		{1, 2, 0, 0}, {1, 3, 1, 0}, {1, 4, 0, 0}, {1, 5, 1, 0}, {2, 3, 0, 1}, {2, 5, 1, 0}, {3, 5, 0, 0}, {4, 5, 0, 0},
	} {
		pair := api.Next{Before: x.a, After: x.b}
		n, e := rings.Made(example(), pair)
		counts(t, "P5.5: Made", n, e, x.made)
		n, e = rings.Missed(example(), pair)
		counts(t, "P5.5: Missed", n, e, x.missed)
		n, e = rings.Made(mixed(), turned(pair))
		counts(t, "P5.5: Made in another order", n, e, x.made)
		n, e = rings.Missed(mixed(), turned(pair))
		counts(t, "P5.5: Missed in another order", n, e, x.missed)
	}
	for _, x := range []api.Next{{Before: 2, After: 1}, {Before: 2, After: 4}, {Before: 3, After: 4}, {Before: 5, After: 1}, {Before: 1, After: 1}, {Before: 3, After: 2}} {
		n, e := rings.Made(example(), x)
		if fails(t, "P5.5: Made of what cannot follow", e, api.ErrProof); n != 0 {
			t.Error("R4: Made", x, n)
		}
		n, e = rings.Missed(example(), x)
		counts(t, "P5.5: Missed of what cannot follow", n, e, 0)
	}
}

func TestFirstsAndLasts(t *testing.T) {
	for _, x := range []struct {
		what                       string
		r                          api.Roll
		firsts, some, lasts, ended []int
	}{
		{"the example", example(), []int{1}, []int{1, 2, 4}, []int{5}, []int{3, 4, 5}},
		{"in another order", mixed(), []int{9}, []int{6, 8, 9}, []int{5}, []int{5, 6, 7}},
		{"nothing", api.Roll{}, nil, nil, nil, nil},
		{"forty birds", flat(), idsOf(flat()), idsOf(flat()), idsOf(flat()), idsOf(flat())},
		{"one bird", full(), []int{api.MaxID}, []int{api.MaxID}, []int{api.MaxID - 39}, []int{api.MaxID - 39}},
	} {
		sure, some, e := rings.Firsts(x.r)
		same(t, "P5.6: Firsts in all: "+x.what, sure, e, x.firsts...)
		same(t, "P5.6: Firsts in some: "+x.what, some, e, x.some...)
		sure, some, e = rings.Lasts(x.r)
		same(t, "P5.6: Lasts in all: "+x.what, sure, e, x.lasts...)
		same(t, "P5.6: Lasts in some: "+x.what, some, e, x.ended...)
	}
}

// checkPairs holds what is told of pairs against all ways of a roll.
func checkPairs(t *testing.T, r api.Roll, ways [][][]int) {
	t.Helper()
	n, fewest := least(ways), fewestOf(ways)
	var sure, possible []api.Next
	for _, x := range allPairs(r) {
		with := waysWith(ways, func(w [][]int) bool { return isNext(w, x) })
		without := waysWith(ways, func(w [][]int) bool { return !isNext(w, x) })
		missed, e := rings.Missed(r, x)
		counts(t, "P5.5: Missed", missed, e, least(without)-n)
		made, e := rings.Made(r, x)
		if !followsID(r, x.Before, x.After) {
			fails(t, "P5.5: Made of what cannot follow", e, api.ErrProof)
			continue
		}
		counts(t, "P5.5: Made", made, e, least(with)-n)
		in := len(waysWith(fewest, func(w [][]int) bool { return isNext(w, x) }))
		if in > 0 {
			possible = append(possible, x)
		}
		if in == len(fewest) {
			sure = append(sure, x)
		}
		if (made == 0) != (in > 0) || (missed > 0) != (in == len(fewest)) {
			t.Errorf("P5.13: %v is in %d of %d: Made %d, Missed %d", x, in, len(fewest), made, missed)
		}
	}
	l, e := rings.Surely(r)
	same(t, "P5.4: Surely", l, e, sure...)
	l, e = rings.Possibly(r)
	same(t, "P5.4: Possibly", l, e, possible...)
}

// checkOutmost holds Firsts or Lasts against all fewest ways of a roll.
func checkOutmost(t *testing.T, what string, r api.Roll, fewest [][][]int, told func(r api.Roll) ([]int, []int, api.Errno), is func(w [][]int, id int) bool) {
	t.Helper()
	var sure, possible []int
	for _, id := range idsOf(r) {
		n := len(waysWith(fewest, func(w [][]int) bool { return is(w, id) }))
		if n > 0 {
			possible = append(possible, id)
		}
		if n == len(fewest) {
			sure = append(sure, id)
		}
	}
	all, some, e := told(r)
	same(t, what+" in all", all, e, sure...)
	same(t, what+" in some", some, e, possible...)
}

func TestNextOfAllRolls(t *testing.T) {
	d := dice(8)
	sure := 0
	for range 1500 {
		r := d.rolled(7)
		ways := allWays(r)
		checkPairs(t, r, ways)
		checkOutmost(t, "P5.6: Firsts", r, fewestOf(ways), rings.Firsts, isFirst)
		checkOutmost(t, "P5.6: Lasts", r, fewestOf(ways), rings.Lasts, isLast)
		if t.Failed() {
			t.Fatal("the roll", r)
		}
		l, _ := rings.Surely(r)
		sure += len(l)
	}
	if sure < 500 {
		t.Error("too few pairs are sure:", sure)
	}
}

// checkPromises holds what is told of pairs against each other.
func checkPromises(t *testing.T, r api.Roll) {
	t.Helper()
	sure, e := rings.Surely(r)
	possible, f := rings.Possibly(r)
	firsts, _, g := rings.Firsts(r)
	lasts, _, h := rings.Lasts(r)
	if e != api.OK || f != api.OK || g != api.OK || h != api.OK {
		t.Fatal("P5.4, P5.6: errors", e, f, g, h)
	}
	before, after := map[int]bool{}, map[int]bool{}
	for _, x := range sure {
		if before[x.Before] || after[x.After] || !slices.Contains(possible, x) {
			t.Fatalf("P5.13: %v is Surely next in %v", x, r)
		}
		before[x.Before], after[x.After] = true, true
	}
	for _, x := range possible {
		if slices.Contains(firsts, x.After) || slices.Contains(lasts, x.Before) {
			t.Fatalf("P5.13: %v is Possibly next in %v, first are %v, last %v", x, r, firsts, lasts)
		}
	}
	for _, x := range allPairs(r) {
		made, e := rings.Made(r, x)
		missed, f := rings.Missed(r, x)
		if is := slices.Contains(possible, x); is != (made == 0 && e == api.OK) {
			t.Fatalf("P5.13: %v is Possibly next in %v: %v, Made %d, error %d", x, r, is, made, e)
		}
		if is := slices.Contains(sure, x); is != (missed > 0) || f != api.OK {
			t.Fatalf("P5.13: %v is Surely next in %v: %v, Missed %d, error %d", x, r, is, missed, f)
		}
	}
}

func TestNextOfManySightings(t *testing.T) {
	d := dice(9)
	for range 60 {
		r, _ := d.flown(1+d.roll(6), 10+d.roll(15))
		checkPromises(t, r)
	}
}

// TestLargestRoll takes as many sightings as there may be, of which as many as possible can follow each other.
func TestLargestRoll(t *testing.T) {
	r := full()
	for i := range r.Seen {
		r.Seen[i].Hole, r.Seen[i].Day = 0, i/4
	}
	checkBirds(t, r, 4)
	l, e := rings.Possibly(r)
	if e != api.OK || len(l) != 9*16 {
		t.Error("P5.4: four birds, each of which can be each one:", len(l), e)
	}
	l, e = rings.Surely(r)
	same(t, "P5.4: four birds", l, e)
	firsts, some, e := rings.Firsts(r)
	if e != api.OK || len(firsts) != 4 || !slices.Equal(firsts, some) {
		t.Error("P5.6: four birds:", firsts, some, e)
	}
	levels, e := rings.Levels(r)
	for i, n := range levels {
		if e != api.OK || n != i/4+1 {
			t.Error("P5.7: four birds:", levels, e)
		}
	}
	checkPromises(t, r)
}
