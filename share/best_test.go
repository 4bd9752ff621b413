package share_test

import (
	"slices"
	"testing"

	"potence/api"
	"potence/share"
)

// checkBest holds Best, CheckBest and Worth against what so many birds must be worth at most.
func checkBest(t *testing.T, l api.Loft, birds, want int) api.Taken {
	t.Helper()
	x, e := share.Best(l, birds)
	if e != api.OK || x.Worth != want || !isProved(l, x) || x.Given[0] != birds {
		t.Fatalf("P7.4: Best of %v for %d birds: %v, error %d, want %d", l, birds, x, e, want)
	}
	fails(t, "P7.11: CheckBest of Best", share.CheckBest(l, x), api.OK)
	w, e := share.Worth(l, x.Given)
	is(t, "P7.3: Worth of Best", w, e, want)
	return x
}

func TestWorths(t *testing.T) {
	l, e := share.Worths(example())
	same(t, "P7.3: Worths of the examples", l, e, 17, 24, 31, 37, 42)
	less := changed(func(p []api.Perch) { p[6].Most = 1 })
	l, e = share.Worths(less)
	same(t, "P7.3: Worths if 7 gives less", l, e, 17, 24, 31, 37, 35)
	l, e = share.Worths(lone(0, 500))
	same(t, "P7.3: Worths of no birds", l, e, 0)
	l, e = share.Worths(lone(1, 3, 5, 5, -2, -3))
	same(t, "P7.3: Worths of a hole", l, e, 5, 10, 8)
	l, e = share.Worths(lone(2, 2, -1000, -1000))
	same(t, "P7.3: Worths of birds that cost", l, e, -2000)
	l, e = share.Worths(great(false))
	if e != api.OK || len(l) != 469 || l[0] != 0 || l[78] != 78000 || l[79] != 78009 || l[468] != 39*(2000+42-1-1999) {
		t.Error("P7.3: Worths of 39 holes:", l, e)
	}
}

func TestBest(t *testing.T) {
	for n, want := range []int{2: 17, 24, 31, 37, 42} {
		if n >= 2 {
			checkBest(t, example(), n, want)
		}
	}
	if x := checkBest(t, example(), 4, 31); !slices.Equal(x.Given, []int{4, 3, 1, 1, 2, 1, 0}) {
		t.Error("P7.4: Best for 4 birds:", x)
	}
	checkBest(t, lone(0, 500), 0, 0)
	checkBest(t, lone(0, 0, 5), 0, 0)
	checkBest(t, lone(0, 2, 5, 3, 2), 0, 0)
	checkBest(t, lone(0, 2, 5, 3, 2), 1, 5)
	checkBest(t, lone(0, 2, 5, 3, 2), 2, 8)
	checkBest(t, lone(1, 500, -1000), 1, -1000)
	checkBest(t, great(false), 234, 39*2030)
	checkBest(t, great(true), 12, 42)
}

// birdsOf returns all numbers of birds of some takings, in order.
func birdsOf(all [][]int) []int {
	var l []int
	for _, g := range all {
		l = append(l, g[0])
	}
	slices.Sort(l)
	return slices.Compact(l)
}

// checkSteps holds Further and Peak against what each number of birds is worth at most, from the least one on.
func checkSteps(t *testing.T, l api.Loft, least int, worths []int) {
	t.Helper()
	for i := range worths {
		w, e := share.Further(l, least+i)
		if i == len(worths)-1 {
			if e != api.ErrNone || w != 0 {
				t.Fatalf("P7.5: Further of the most birds of %v: %d, error %d", l, w, e)
			}
			continue
		}
		is(t, "P7.5: Further", w, e, worths[i+1]-worths[i])
		if i > 0 && w > worths[i]-worths[i-1] {
			t.Fatalf("P7.12: Further of %d birds of %v rises to %d", least+i, l, w)
		}
	}
	s, w, e := share.Peak(l)
	most := slices.Max(worths)
	is(t, "P7.5: what the Peak is worth", w, e, most)
	lo := least + slices.Index(worths, most)
	hi := least + len(worths) - 1
	for worths[hi-least] != most {
		hi--
	}
	if is(t, "P7.5: Peak", s, e, span(lo, hi)); t.Failed() {
		t.Fatal(l)
	}
}

// TestBestOfAllLofts holds what is told of best takings against a listing of all takings.
func TestBestOfAllLofts(t *testing.T) {
	d := dice(4)
	for range 2000 {
		l := d.rolled()
		all := takings(l)
		if len(all) == 0 {
			continue
		}
		birds := birdsOf(all)
		var want []int
		for i, n := range birds {
			best, w := bestOf(l, all, n)
			x := checkBest(t, l, n, w)
			if !slices.ContainsFunc(best, func(g []int) bool { return slices.Equal(g, x.Given) }) {
				t.Fatalf("T7: Best of %v for %d birds is %v", l, n, x)
			}
			if n != birds[0]+i {
				t.Fatal("P7.3: no taking for a number between", l, birds)
			}
			want = append(want, w)
		}
		got, e := share.Worths(l)
		same(t, "P7.3, P7.12: Worths", got, e, want...)
		checkSteps(t, l, birds[0], want)
		for _, n := range []int{birds[0] - 1, birds[len(birds)-1] + 1} {
			x, e := share.Best(l, n)
			if e != api.ErrArg || !isZero(x.Given) || !isZero(x.Prices) || x.Worth != 0 {
				t.Fatalf("P7.4: Best of %v for %d birds, which there are not: %v, error %d", l, n, x, e)
			}
		}
	}
}

func TestFurther(t *testing.T) {
	for n, want := range []int{2: 7, 7, 6, 5} {
		if n >= 2 {
			w, e := share.Further(example(), n)
			is(t, "P7.5: Further", w, e, want)
		}
	}
	w, e := share.Further(changed(func(p []api.Perch) { p[6].Most = 1 }), 5)
	is(t, "P7.5: Further of birds that cost", w, e, -2)
	for _, x := range []struct {
		l     api.Loft
		birds int
	}{{example(), 6}, {lone(0, 9), 0}, {lone(0, 2, 5, 5, 5), 2}, {lone(3, 3, 5, 5, 5), 3}, {great(false), 468}} {
		w, e := share.Further(x.l, x.birds)
		if e != api.ErrNone || w != 0 {
			t.Errorf("P7.5: Further of the most birds: %d, error %d", w, e)
		}
	}
}

func TestPeak(t *testing.T) {
	for i, x := range []struct {
		l     api.Loft
		s     api.Span
		worth int
	}{
		{example(), span(6, 6), 42},
		{changed(func(p []api.Perch) { p[6].Most = 1 }), span(5, 5), 37},
		{lone(0, 500), span(0, 0), 0},
		{lone(0, 9, 0, 0, -1), span(0, 2), 0},
		{lone(1, 9, 0, 0, -1), span(1, 2), 0},
		{lone(0, 9, -1, -1), span(0, 0), 0},
		{lone(1, 9, -1, -1), span(1, 1), -1},
		{lone(0, 9, 3, 1, 0, 0, 0), span(2, 5), 4},
		{lone(4, 4, 3, 1, 0, 0, 0), span(4, 4), 4},
		{great(false), span(39*8, 39*9), 39 * 2042},
	} {
		s, w, e := share.Peak(x.l)
		if e != api.OK || s != x.s || w != x.worth {
			t.Errorf("P7.5: Peak %d: %v, %d, error %d, want %v, %d", i, s, w, e, x.s, x.worth)
		}
	}
}

// pricesOf returns prices of the loft of the examples, one of which may be another one.
func pricesOf(at, price int) []int {
	l := slices.Repeat([]int{6}, 7)
	l[at] = price
	return l
}

func TestCheckBest(t *testing.T) {
	five := []int{5, 3, 2, 1, 2, 1, 1}
	for _, x := range []struct {
		what string
		t    api.Taken
		e    api.Errno
	}{
		{"the example", proved(), api.OK},
		{"a price above that of the house, of what gives Most", api.Taken{Given: proved().Given, Worth: 31, Prices: []int{6, 7, 6, 7, 7, 6, 6}}, api.OK},
		{"a price below, of what gives Least", api.Taken{Given: proved().Given, Worth: 31, Prices: []int{7, 7, 7, 7, 7, 6, 6}}, api.OK},
		{"a price below, of what gives Least, which its next bird allows", api.Taken{Given: proved().Given, Worth: 31, Prices: []int{7, 7, 7, 7, 7, -2, 7}}, api.OK},
		{"a price below what its next bird is worth", api.Taken{Given: proved().Given, Worth: 31, Prices: []int{7, 7, 7, 7, 7, -3, 7}}, api.ErrProof},
		{"a price as great as can be", api.Taken{Given: proved().Given, Worth: 31, Prices: []int{6, 6, 6, 6, 6, 6, 1 << 20}}, api.ErrProof},
		{"a price above, of what does not give Most", api.Taken{Given: proved().Given, Worth: 31, Prices: pricesOf(6, 7)}, api.ErrProof},
		{"a price below, of what does not give Least", api.Taken{Given: proved().Given, Worth: 31, Prices: pricesOf(2, 5)}, api.ErrProof},
		{"a hole's price above, that does not give Most", api.Taken{Given: proved().Given, Worth: 31, Prices: pricesOf(3, 7)}, api.ErrProof},
		{"a hole's price below, that does not give Least", api.Taken{Given: proved().Given, Worth: 31, Prices: pricesOf(4, 5)}, api.ErrProof},
		{"prices above what the last bird is worth", api.Taken{Given: proved().Given, Worth: 31, Prices: slices.Repeat([]int{8}, 7)}, api.ErrProof},
		{"prices below what the next bird is worth", api.Taken{Given: proved().Given, Worth: 31, Prices: slices.Repeat([]int{5}, 7)}, api.ErrProof},
		{"another worth", api.Taken{Given: proved().Given, Worth: 30, Prices: proved().Prices}, api.ErrProof},
		{"no worth", api.Taken{Given: proved().Given, Prices: proved().Prices}, api.ErrProof},
		{"another taking", api.Taken{Given: five, Worth: 37, Prices: pricesOf(0, 6)}, api.OK},
		{"another taking, the worth of this one", api.Taken{Given: five, Worth: 31, Prices: pricesOf(0, 6)}, api.ErrProof},
		{"a taking that is no best one", api.Taken{Given: []int{4, 3, 1, 2, 1, 1, 0}, Worth: 28, Prices: pricesOf(0, 6)}, api.ErrProof},
		{"no taking", api.Taken{Given: []int{5, 3, 1, 1, 2, 1, 0}, Worth: 31, Prices: pricesOf(0, 6)}, api.ErrProof},
		{"a number less", api.Taken{Given: proved().Given[:6], Worth: 31, Prices: pricesOf(0, 6)}, api.ErrProof},
		{"a number more", api.Taken{Given: append(proved().Given, 0), Worth: 31, Prices: pricesOf(0, 6)}, api.ErrProof},
		{"a price less", api.Taken{Given: proved().Given, Worth: 31, Prices: proved().Prices[:6]}, api.ErrProof},
		{"a price more", api.Taken{Given: proved().Given, Worth: 31, Prices: append(proved().Prices, 6)}, api.ErrProof},
		{"no prices", api.Taken{Given: proved().Given, Worth: 31}, api.ErrProof},
		{"nothing", api.Taken{}, api.ErrProof},
	} {
		fails(t, "P7.4: "+x.what, share.CheckBest(example(), x.t), x.e)
	}
}

func TestBoundsOfPrices(t *testing.T) {
	for _, x := range []struct {
		price int
		e     api.Errno
	}{{1 << 20, api.OK}, {-1 << 20, api.OK}, {0, api.OK}, {1<<20 + 1, api.ErrProof}, {-1<<20 - 1, api.ErrProof}} {
		one := api.Taken{Given: []int{0}, Prices: []int{x.price}}
		fails(t, "P7.4: a price of nothing", share.CheckBest(lone(0, 500), one), x.e)
		all := api.Taken{Given: make([]int, 2), Prices: []int{0, x.price}}
		two := api.Loft{Perches: []api.Perch{{ID: 1, Above: -1}, {ID: 2, Most: 0}}}
		fails(t, "P7.4: a price of a hole without Worths", share.CheckBest(two, all), x.e)
	}
	for _, price := range []int{1 << 20, 6, 5} {
		fails(t, "P7.4: the price of a hole that gives none", share.CheckBest(lone(0, 1, 5), api.Taken{Given: []int{0}, Prices: []int{price}}), api.OK)
	}
	for _, price := range []int{-1 << 20, 4, 5} {
		fails(t, "P7.4: the price of a hole that gives all", share.CheckBest(lone(0, 1, 5), api.Taken{Given: []int{1}, Worth: 5, Prices: []int{price}}), api.OK)
	}
	fails(t, "P7.4: a price that is too low", share.CheckBest(lone(0, 1, 5), api.Taken{Given: []int{0}, Prices: []int{4}}), api.ErrProof)
	fails(t, "P7.4: a price that is too great", share.CheckBest(lone(0, 1, 5), api.Taken{Given: []int{1}, Worth: 5, Prices: []int{6}}), api.ErrProof)
}

// twist returns a best taking, of which all takings are told, with some change.
func (d *dice) twist(l api.Loft, all [][]int, x api.Taken) api.Taken {
	x.Given, x.Prices = slices.Clone(x.Given), slices.Clone(x.Prices)
	at := d.roll(len(x.Given))
	switch d.roll(7) {
	case 0:
		x.Given[at] += 2*d.roll(2) - 1
	case 1:
		x.Worth += d.roll(3) - 1
	case 2:
		x.Given = slices.Clone(all[d.roll(len(all))])
		x.Worth = worthOf(l, x.Given)
	case 3:
		by := d.roll(3) - 1
		for i := range x.Prices {
			x.Prices[i] += by
		}
	case 4:
		best, _ := bestOf(l, all, x.Given[0])
		x.Given = slices.Clone(best[d.roll(len(best))])
	default:
		for range 1 + d.roll(2) {
			x.Prices[d.roll(len(x.Prices))] += d.roll(5) - 2
		}
	}
	return x
}

func TestTwistedTakings(t *testing.T) {
	d := dice(5)
	var accepted, refused int
	for range 3000 {
		l := d.rolled()
		all := takings(l)
		if len(all) == 0 {
			continue
		}
		x, _ := share.Best(l, all[d.roll(len(all))][0])
		for range 1 + d.roll(3) {
			x = d.twist(l, all, x)
			if !isTaking(l, x.Given) {
				break
			}
		}
		e := share.CheckBest(l, x)
		if !isProved(l, x) {
			refused++
			fails(t, "P7.4: CheckBest", e, api.ErrProof)
			continue
		}
		accepted++
		_, most := bestOf(l, all, x.Given[0])
		if e != api.OK || x.Worth != most {
			t.Fatalf("P7.4, P7.11: CheckBest of %v for %v: error %d", x, l, e)
		}
	}
	if accepted < 300 || refused < 300 {
		t.Error("too much alike:", accepted, refused)
	}
}

// checkChange holds a taking that gives by so many birds more in a hole against the one that it was.
func checkChange(t *testing.T, promise string, l api.Loft, x api.Taken, by, id int, y api.Taken, e api.Errno) {
	t.Helper()
	hole := slices.IndexFunc(l.Perches, func(p api.Perch) bool { return p.ID == id })
	want, _ := share.Best(l, x.Given[0]+by)
	if e != api.OK || hole < 0 || !isHole(l, hole) || !isProved(l, y) || y.Worth != want.Worth || y.Given[0] != x.Given[0]+by {
		t.Fatalf("%s: %v of %v for %v: %d, %v, error %d", promise, by, x, l, id, y, e)
	}
	fails(t, "P7.7: CheckBest", share.CheckBest(l, y), api.OK)
	fewer, more := x, y
	if by < 0 {
		fewer, more = y, x
	}
	if worth := more.Worth - fewer.Worth; worth > fewer.Prices[0] || worth < more.Prices[0] {
		t.Fatalf("T7: a bird more than %v of %v is worth %d: %v", fewer, l, worth, more)
	}
	for at := range l.Perches {
		changed := 0
		if at == hole {
			changed = by
		}
		if isHole(l, at) && y.Given[at] != x.Given[at]+changed {
			t.Fatalf("P7.13: the hole %d differs: %v, %v of %v", at, x, y, l)
		}
	}
}

// checkWay goes by Add from the least number of birds up to the greatest one, and by Drop back.
func checkWay(t *testing.T, l api.Loft) {
	t.Helper()
	s, _ := share.Range(l)
	x, _ := share.Best(l, s.Lo)
	for n := s.Lo; n < s.Hi; n++ {
		id, y, e := share.Add(l, x)
		checkChange(t, "P7.7: Add", l, x, 1, id, y, e)
		x = y
	}
	id, y, e := share.Add(l, x)
	if e != api.ErrNone || id != 0 || !isZero(y.Given) || !isZero(y.Prices) || y.Worth != 0 {
		t.Fatalf("P7.7: Add to the most birds: %d, %v, error %d", id, y, e)
	}
	for n := s.Hi; n > s.Lo; n-- {
		id, y, e := share.Drop(l, x)
		checkChange(t, "P7.7: Drop", l, x, -1, id, y, e)
		x = y
	}
	id, y, e = share.Drop(l, x)
	if e != api.ErrNone || id != 0 || !isZero(y.Given) || !isZero(y.Prices) || y.Worth != 0 {
		t.Fatalf("P7.7: Drop of the least birds: %d, %v, error %d", id, y, e)
	}
}

func TestOneMore(t *testing.T) {
	for _, l := range lofts()[:6] {
		checkWay(t, l)
	}
	id, y, e := share.Add(example(), proved())
	if e != api.OK || id != 7 || !slices.Equal(y.Given, []int{5, 3, 2, 1, 2, 1, 1}) || y.Worth != 37 {
		t.Error("P7.7: Add to the example:", id, y, e)
	}
	id, y, e = share.Drop(example(), proved())
	if e != api.OK || id != 5 || !slices.Equal(y.Given, []int{3, 2, 1, 1, 1, 1, 0}) || y.Worth != 24 {
		t.Error("P7.7: Drop of the example:", id, y, e)
	}
	for _, x := range []api.Taken{{}, {Given: proved().Given, Worth: 31}, {Given: proved().Given, Worth: 31, Prices: pricesOf(6, 7)}, {Given: proved().Given, Worth: 32, Prices: pricesOf(0, 6)}} {
		for _, c := range named(input{t: x}, "Add", "Drop") {
			failsAt(t, "P7.7", "what CheckBest refuses", c, example(), api.ErrProof)
			failsAt(t, "P7.7, R3", "what CheckBest refuses, and no bird more or less", c, lone(0, 0), api.ErrProof)
		}
	}
}

// TestOneMoreOfAllTakings adds to, and drops from, each best taking of small lofts.
func TestOneMoreOfAllTakings(t *testing.T) {
	d := dice(6)
	for range 700 {
		l := d.rolled()
		all := takings(l)
		if len(all) == 0 {
			continue
		}
		checkWay(t, l)
		birds := birdsOf(all)
		for _, n := range birds {
			proof, _ := share.Best(l, n)
			best, _ := bestOf(l, all, n)
			for _, g := range best {
				x := api.Taken{Given: g, Worth: proof.Worth, Prices: proof.Prices}
				fails(t, "P7.4: CheckBest of another best taking", share.CheckBest(l, x), api.OK)
				if n < birds[len(birds)-1] {
					id, y, e := share.Add(l, x)
					checkChange(t, "P7.7: Add", l, x, 1, id, y, e)
				}
				if n > birds[0] {
					id, y, e := share.Drop(l, x)
					checkChange(t, "P7.7: Drop", l, x, -1, id, y, e)
				}
			}
		}
	}
}
