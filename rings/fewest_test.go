package rings_test

import (
	"slices"
	"testing"

	"potence/api"
	"potence/rings"
)

// counts reports a promise whose number is not the one that is wanted.
func counts(t *testing.T, what string, got int, e api.Errno, want int) {
	t.Helper()
	if e != api.OK || got != want {
		t.Errorf("%s: got %d, error %d, want %d", what, got, e, want)
	}
}

// shows says whether birds are a way, and sightings that are apart, in increasing order, as many as there are chains.
func shows(r api.Roll, b api.Birds) bool {
	for i, id := range b.Apart {
		if _, is := sighting(r, id); !is || i > 0 && id <= b.Apart[i-1] {
			return false
		}
	}
	return isWay(r, b.Chains) && areApart(r, b.Apart) && len(b.Apart) == len(b.Chains)
}

// checkBirds holds Fewest, CheckFewest and Count against how many chains there must be.
func checkBirds(t *testing.T, r api.Roll, want int) {
	t.Helper()
	b, e := rings.Fewest(r)
	if e != api.OK || len(b.Chains) != want || !shows(r, b) {
		t.Fatalf("P5.2: Fewest of %v: %v, error %d, want %d chains", r, b, e, want)
	}
	fails(t, "P5.11: CheckFewest of Fewest", rings.CheckFewest(r, b), api.OK)
	is, e := rings.Explains(r, b.Chains)
	if e != api.OK || !is {
		t.Fatalf("P5.3: Explains of %v: %v, error %d", b.Chains, is, e)
	}
	n, e := rings.Count(r)
	counts(t, "P5.2: Count", n, e, want)
}

func TestFewest(t *testing.T) {
	r := api.Roll{Moves: 9}
	checkBirds(t, r, 0)
	if b, _ := rings.Fewest(r); len(b.Apart) != 0 {
		t.Error("P5.2: Fewest of nothing:", b)
	}
	for n := 1; n <= 40; n++ {
		checkBirds(t, api.Roll{Moves: 1000, Seen: full().Seen[:n]}, 1)
		checkBirds(t, api.Roll{Moves: 1000, Seen: flat().Seen[:n]}, n)
		checkBirds(t, api.Roll{Moves: 999, Seen: full().Seen[:n]}, min(n, 2)) // every other one is too far away
	}
	checkBirds(t, example(), 2)
	checkBirds(t, mixed(), 2)
	if b, _ := rings.Fewest(example()); !slices.Equal(b.Apart, []int{3, 4}) && !slices.Equal(b.Apart, []int{2, 4}) {
		t.Error("P5.2: apart in the example:", b)
	}
}

// zigzag returns so many sightings at holes side by side, in turns of two days: each one of the second day can follow its neighbours.
func zigzag(n int) api.Roll {
	r := api.Roll{Moves: 1}
	for i := range n {
		r.Seen = append(r.Seen, api.Seen{ID: 100 + i, Day: i % 2, Hole: 500 + i})
	}
	return r
}

// TestManyChangesOfChains takes sightings in orders in which many have to give up what comes next after them, one for the other.
func TestManyChangesOfChains(t *testing.T) {
	d := dice(7)
	for n := range 41 {
		r := zigzag(n)
		for range 30 {
			checkBirds(t, r, (n+1)/2)
			shuffle(&d, r.Seen)
		}
	}
	r := zigzag(40)
	slices.Reverse(r.Seen)
	checkBirds(t, r, 20)
	l, e := rings.Surely(r)
	if e != api.OK || len(l) != 20 || l[19] != (api.Next{Before: 138, After: 139}) {
		t.Error("P5.4: Surely of 20 birds:", l, e)
	}
}

func TestFewestOfAllRolls(t *testing.T) {
	d := dice(2)
	kinds := map[[2]int]bool{}
	for range 2500 {
		r := d.rolled(7)
		n := least(allWays(r))
		if len(r.Seen) == 0 {
			n = 0
		}
		checkBirds(t, r, n)
		if most := mostApart(r); most != n {
			t.Fatalf("T5: %v: %d chains, %d apart", r, n, most)
		}
		kinds[[2]int{len(r.Seen), n}] = true
	}
	if len(kinds) < 25 {
		t.Error("the rolls are too much alike:", kinds)
	}
}

func TestCheckFewest(t *testing.T) {
	for _, x := range []struct {
		what   string
		chains [][]int
		apart  []int
		e      api.Errno
	}{
		{"the example", [][]int{{1, 2, 3, 5}, {4}}, []int{3, 4}, api.OK},
		{"other ones", [][]int{{1, 2, 3}, {4, 5}}, []int{2, 4}, api.OK},
		{"in another order", [][]int{{2, 3, 5}, {1, 4}}, []int{3, 4}, api.OK},
		{"chains in another order", [][]int{{1, 4}, {2, 3, 5}}, []int{3, 4}, api.OK},
		{"not in increasing order", [][]int{{1, 2, 3, 5}, {4}}, []int{4, 3}, api.ErrProof},
		{"one twice", [][]int{{1, 2, 3, 5}, {4}}, []int{4, 4}, api.ErrProof},
		{"not apart", [][]int{{1, 2, 3, 5}, {4}}, []int{2, 3}, api.ErrProof},
		{"not apart, the later one first", [][]int{{1, 2, 3, 5}, {4}}, []int{1, 4}, api.ErrProof},
		{"one apart", [][]int{{1, 2, 3, 5}, {4}}, []int{3}, api.ErrProof},
		{"none apart", [][]int{{1, 2, 3, 5}, {4}}, nil, api.ErrProof},
		{"three apart", [][]int{{1, 2, 3, 5}, {4}}, []int{2, 3, 4}, api.ErrProof},
		{"three chains", [][]int{{1, 2, 3}, {4}, {5}}, []int{3, 4}, api.ErrProof},
		{"three chains, and three that are not apart", [][]int{{1, 2, 3}, {4}, {5}}, []int{3, 4, 5}, api.ErrProof},
		{"one left out", [][]int{{1, 2, 3}, {4}}, []int{3, 4}, api.ErrProof},
		{"one in two chains", [][]int{{1, 2, 3, 5}, {4, 5}}, []int{3, 4}, api.ErrProof},
		{"one in two chains, for another one", [][]int{{1, 2, 3}, {1, 4}}, []int{3, 4}, api.ErrProof},
		{"one twice in a chain", [][]int{{1, 2, 2, 3, 5}, {4}}, []int{3, 4}, api.ErrProof},
		{"a chain the other way round", [][]int{{5, 3, 2, 1}, {4}}, []int{3, 4}, api.ErrProof},
		{"what cannot follow", [][]int{{1, 2, 4}, {3, 5}}, []int{3, 4}, api.ErrProof},
		{"an empty chain", [][]int{{1, 2, 3, 5}, {4}, {}}, []int{3, 4}, api.ErrProof},
		{"an empty chain, and three apart", [][]int{{1, 2, 3, 5}, {4}, {}}, []int{3, 4, 5}, api.ErrProof},
		{"no sighting in a chain", [][]int{{1, 2, 3, 5, 6}, {4}}, []int{3, 4}, api.ErrProof},
		{"no sighting as a chain", [][]int{{1, 2, 3, 5}, {0}}, []int{3, 4}, api.ErrProof},
		{"no sighting for another one", [][]int{{1, 2, 3, 5}, {6}}, []int{3, 4}, api.ErrProof},
		{"no sighting apart", [][]int{{1, 2, 3, 5}, {4}}, []int{4, 6}, api.ErrProof},
		{"no sighting apart, ahead", [][]int{{1, 2, 3, 5}, {4}}, []int{0, 4}, api.ErrProof},
		{"nothing", nil, nil, api.ErrProof},
	} {
		b := api.Birds{Chains: x.chains, Apart: x.apart}
		fails(t, "P5.2: "+x.what, rings.CheckFewest(example(), b), x.e)
	}
	fails(t, "P5.2: nothing of nothing", rings.CheckFewest(api.Roll{}, api.Birds{}), api.OK)
	fails(t, "P5.2: an empty chain of nothing", rings.CheckFewest(api.Roll{}, api.Birds{Chains: [][]int{{}}}), api.ErrProof)
	fails(t, "P5.2: a chain of nothing", rings.CheckFewest(api.Roll{}, api.Birds{Chains: [][]int{{1}}, Apart: []int{1}}), api.ErrProof)
	fails(t, "P5.2: apart in nothing", rings.CheckFewest(api.Roll{}, api.Birds{Apart: []int{1}}), api.ErrProof)
	many := api.Birds{Apart: make([]int, 100)}
	for i := range 100 {
		many.Chains = append(many.Chains, []int{1})
		many.Apart[i] = i + 1
	}
	fails(t, "P5.2: too many", rings.CheckFewest(example(), many), api.ErrProof)
}

// twist returns birds with some change.
func (d *dice) twist(r api.Roll, b api.Birds) api.Birds {
	b = api.Birds{Chains: cloned(b.Chains), Apart: slices.Clone(b.Apart)}
	if len(b.Chains) == 0 {
		return b
	}
	i := d.roll(len(b.Chains))
	j := d.roll(len(b.Chains[i]))
	id := d.roll(len(r.Seen)*3 + 2)
	switch d.roll(8) {
	case 0:
		b.Chains[i][j] = id
	case 1:
		b.Chains[i] = slices.Delete(b.Chains[i], j, j+1)
	case 2:
		b.Chains[i] = slices.Insert(b.Chains[i], j, id)
	case 3:
		b.Chains = append(b.Chains, b.Chains[i][j:])
		b.Chains[i] = slices.Clone(b.Chains[i][:j])
	case 4:
		k := d.roll(len(b.Chains))
		b.Chains[k] = slices.Concat(b.Chains[k], b.Chains[i])
		if k != i {
			b.Chains = slices.Delete(b.Chains, i, i+1)
		}
	case 5:
		b.Apart[d.roll(len(b.Apart))] = id
	case 6:
		b.Apart[d.roll(len(b.Apart))] = r.Seen[d.roll(len(r.Seen))].ID
		slices.Sort(b.Apart)
	default:
		b.Chains = allWays(r)[d.roll(len(allWays(r)))]
	}
	return b
}

func TestTwistedBirds(t *testing.T) {
	d := dice(3)
	var accepted, refused int
	for range 800 {
		r := d.rolled(6)
		b, _ := rings.Fewest(r)
		n, most := least(allWays(r)), mostApart(r)
		for range 12 {
			x := d.twist(r, b)
			is, e := rings.Explains(r, x.Chains)
			if e != api.OK || is != isWay(r, x.Chains) {
				t.Fatalf("P5.3: Explains of %v of %v: %v, error %d", x.Chains, r, is, e)
			}
			e = rings.CheckFewest(r, x)
			if shows(r, x) != (e == api.OK) || e != api.OK && e != api.ErrProof {
				t.Fatalf("P5.2: %v of %v: error %d", x, r, e)
			}
			if e != api.OK {
				refused++
				continue
			}
			if accepted++; len(r.Seen) > 0 && len(x.Chains) != n || len(x.Apart) != most {
				t.Fatalf("P5.11: %v of %v is accepted: there are %d chains, and %d apart", x, r, n, most)
			}
		}
	}
	if accepted < 1000 || refused < 1000 {
		t.Error("the birds are too much alike:", accepted, refused)
	}
}

func TestExplains(t *testing.T) {
	for _, x := range []struct {
		chains [][]int
		want   bool
	}{
		{[][]int{{1, 2, 3, 5}, {4}}, true},
		{[][]int{{4}, {5}, {3}, {1}, {2}}, true},
		{[][]int{{1, 3}, {2, 5}, {4}}, true},
		{[][]int{{1, 5}, {2}, {4}}, false},
		{[][]int{{1, 2, 3, 5}, {4}, {}}, false},
		{[][]int{{}}, false},
		{[][]int{{1, 2, 3, 5}, {4}, {4}}, false},
		{[][]int{{1, 2, 3, 5, 4}}, false},
		{[][]int{{1, 2, 3, 5}, {4}, {6}}, false},
		{[][]int{{1, 2, 3, 5}, {-4}}, false},
		{nil, false},
	} {
		if is, e := rings.Explains(example(), x.chains); is != x.want || e != api.OK {
			t.Errorf("P5.3: Explains of %v: %v, error %d", x.chains, is, e)
		}
	}
	for _, x := range []struct {
		chains [][]int
		want   bool
	}{{nil, true}, {[][]int{}, true}, {[][]int{{}}, false}, {[][]int{{1}}, false}} {
		if is, e := rings.Explains(api.Roll{}, x.chains); is != x.want || e != api.OK {
			t.Errorf("P5.3: Explains of %v of nothing: %v, error %d", x.chains, is, e)
		}
	}
}

func TestAmong(t *testing.T) {
	for _, x := range []struct {
		ids  []int
		want int
	}{
		{nil, 0}, {[]int{1, 2, 3}, 1}, {[]int{3, 4}, 2}, {[]int{2, 3, 4}, 2}, {[]int{1, 4, 5}, 1}, {[]int{5}, 1}, {[]int{1, 2, 3, 4, 5}, 2},
	} {
		n, e := rings.Among(example(), x.ids)
		counts(t, "P5.3: Among", n, e, x.want)
		for i := range x.ids {
			x.ids[i] = 10 - x.ids[i]
		}
		slices.Sort(x.ids)
		n, e = rings.Among(mixed(), x.ids)
		counts(t, "P5.3: Among in another order", n, e, x.want)
	}
	for _, x := range []struct {
		ids []int
		e   api.Errno
	}{
		{[]int{2, 1}, api.ErrArg}, {[]int{1, 1}, api.ErrArg}, {[]int{1, 2, 5, 4}, api.ErrArg}, {[]int{1, 3, 3}, api.ErrArg},
		{[]int{2, 1, 6}, api.ErrNone}, {[]int{6, 1}, api.ErrNone}, {[]int{1, 1, 0}, api.ErrNone}, {[]int{6}, api.ErrNone}, {[]int{0, 1}, api.ErrNone},
	} {
		n, e := rings.Among(example(), x.ids)
		if fails(t, "P5.3: Among", e, x.e); n != 0 {
			t.Error("R4: Among", x.ids, n)
		}
	}
}

func TestNeeded(t *testing.T) {
	l, e := rings.Needed(example())
	same(t, "P5.9: the example", l, e, 4)
	l, e = rings.Needed(mixed())
	same(t, "P5.9: in another order", l, e, 6)
	l, e = rings.Needed(api.Roll{})
	same(t, "P5.9: nothing", l, e)
	l, e = rings.Needed(full())
	same(t, "P5.9: one bird", l, e)
	l, e = rings.Needed(flat())
	same(t, "P5.9: forty birds", l, e, idsOf(flat())...)
	l, e = rings.Needed(api.Roll{Seen: flat().Seen[:1]})
	same(t, "P5.9: one sighting", l, e, api.MaxID)
}

func TestFewerSightings(t *testing.T) {
	d := dice(4)
	for range 500 {
		r := d.rolled(8)
		if len(r.Seen) > 6 {
			r = d.manyOf(r)
		}
		n, _ := rings.Count(r)
		var needed []int
		for _, id := range idsOf(r) {
			less, e := rings.Without(r, []int{id})
			m, f := rings.Count(less)
			if e != api.OK || f != api.OK || m != n && m != n-1 {
				t.Fatalf("P5.15: without %d of %v: %d of %d, errors %d and %d", id, r, m, n, e, f)
			}
			if m < n {
				needed = append(needed, id)
			}
		}
		l, e := rings.Needed(r)
		same(t, "P5.9, P5.15: Needed", l, e, needed...)
		var some []int
		for _, id := range idsOf(r) {
			if d.roll(2) == 0 {
				some = append(some, id)
			}
		}
		among, e := rings.Among(r, some)
		want, _ := rings.Count(only(r, some))
		if counts(t, "P5.3: Among", among, e, want); among > n {
			t.Fatalf("P5.15: among %v of %v: %d of %d", some, r, among, n)
		}
	}
}

// manyOf returns a roll with more sightings, of the same kind as those of another one.
func (d *dice) manyOf(r api.Roll) api.Roll {
	more := api.Roll{Moves: r.Moves}
	for _, id := range d.ids(20) {
		s := r.Seen[d.roll(len(r.Seen))]
		s.ID, s.Day, s.Hole = id, s.Day+d.roll(6), s.Hole+d.roll(4)
		more.Seen = append(more.Seen, s)
	}
	return more
}

func TestLostRingsAndMoreMoves(t *testing.T) {
	d := dice(5)
	lost := 0
	for i := range 600 {
		r, _ := d.flown(1+d.roll(5), 5+d.roll(25))
		if i%2 == 0 {
			r = d.rolled(12)
		}
		n, _ := rings.Count(r)
		further := r
		further.Moves += 1 + d.roll(3)
		if m, e := rings.Count(further); e != api.OK || m > n {
			t.Fatalf("P5.15: with more Moves of %v: %d, before %d, error %d", r, m, n, e)
		}
		if len(r.Seen) == 0 {
			continue
		}
		last := slices.MaxFunc(r.Seen, func(a, b api.Seen) int { return a.Day - b.Day })
		for place := range api.MaxLegs {
			less, e := rings.Lose(r, last.ID, place)
			if last.Rings[place] == 0 {
				fails(t, "P5.8: no ring", e, api.ErrNone)
				continue
			}
			lost++
			if m, f := rings.Count(less); e != api.OK || f != api.OK || m > n {
				t.Fatalf("P5.15: with a ring less of %v: %d, before %d, errors %d and %d", r, m, n, e, f)
			}
		}
	}
	if lost < 100 {
		t.Error("too few rings are lost:", lost)
	}
}

func TestTrueBirds(t *testing.T) {
	d := dice(6)
	all := 0
	for range 400 {
		birds := 1 + d.roll(8)
		r, of := d.flown(birds, 8+d.roll(33))
		fails(t, "P5.1: true birds", rings.Check(r), api.OK)
		b, e := rings.Fewest(r)
		if e != api.OK || !shows(r, b) || len(b.Chains) > birds {
			t.Fatalf("P5.16: %d birds, seen as %v: %v, error %d", birds, r, b, e)
		}
		n, e := rings.Count(r)
		counts(t, "P5.2: Count", n, e, len(b.Chains))
		truly := map[int]bool{}
		for _, id := range b.Apart {
			truly[of[id]] = true
		}
		if len(truly) != len(b.Apart) {
			t.Fatalf("P5.16: %v are of the birds %v", b.Apart, truly)
		}
		if n == birds {
			all++
		}
	}
	if all < 100 {
		t.Error("too often not all birds are found:", all)
	}
}
