package grain_test

import (
	"math"
	"slices"
	"testing"

	"potence/api"
	"potence/grain"
)

// checkBest holds Best, CheckBest and Cost against what a cheapest way must cost.
func checkBest(t *testing.T, b api.Barn, most bool, want int) api.Lots {
	t.Helper()
	l, e := grain.Best(b, most)
	if e != api.OK || l.Cost != want || !isProved(b, most, l) {
		t.Fatalf("P8.2, T8: Best of %v, %v: %v, error %d, want %d", b, most, l, e, want)
	}
	fails(t, "P8.12: CheckBest of Best", grain.CheckBest(b, most, l), api.OK)
	n, e := grain.Cost(b, most, l.Bought)
	is(t, "P8.1: Cost of Best", n, e, want)
	return l
}

func TestBest(t *testing.T) {
	if l := checkBest(t, example(), false, 86); !slices.Equal(l.Bought, []int{0, 0, -1, 2}) {
		t.Error("P8.2: Best of the examples:", l)
	}
	if l := checkBest(t, example(), true, 98); !slices.Equal(l.Bought, []int{0, 0, -1, 2}) {
		t.Error("P8.2: Best for the most of the examples:", l)
	}
	for _, x := range []struct {
		b    api.Barn
		most bool
		want int
	}{
		{lone(api.Market{}), false, 0}, {lone(api.Market{Closed: true, Fare: 9}), true, 0}, {lone(api.Market{Fare: 9, Price: 1000}), true, 0},
		{lone(api.Market{Price: 7, Fare: 3, Need: span(0, 2)}), false, 0}, {lone(api.Market{Price: 7, Fare: 3, Need: span(0, 2)}), true, 17},
		{dear(), false, 100000 + 60*1000*1000 + 1000*1000*59*60/2}, {dear(), true, 100000 + 60*1000*1000 + 1000*1000*59*60/2},
		{alike(60, 1000, 60, api.Market{Price: 1000, Fare: 100000, Need: span(1000, 1000)}), true, 60 * 1100000},
		{alike(60, 0, 60, api.Market{Price: 1000, Fare: 100000, Need: span(1000, 1000)}), true, 60*1000000 + 100000},
		{alike(60, 0, 4, api.Market{Price: 1, Fare: 100, Need: span(1, 2)}), false, 12*100 + 60},
		{alike(60, 1, 60, api.Market{Price: 1, Fare: 6, Need: span(1, 1)}), true, 15*(6+6) + 60},
		{altered(func(b *api.Barn) { b.Keep = 0 }), false, 30 + 29 + 39}, {altered(func(b *api.Barn) { b.Keep = 3 }), false, 86},
		{altered(func(b *api.Barn) { b.Keep = 3; b.Days[2].Closed = true; b.Days[3].Closed = true }), false, 10 + 20 + 18 + 48},
		{altered(func(b *api.Barn) { b.Days[2].Closed = true; b.Days[3].Closed = true }), false, 48 + 2 + 66},
	} {
		checkBest(t, x.b, x.most, x.want)
	}
}

// TestTurns holds Best to a barn in which one buys on a dear day behind a cheap one that does not keep so long, and CheckBest to ways that go to and fro.
func TestTurns(t *testing.T) {
	// What is bought on the day 0 is cheap, and keeps up to 2; only what is bought on the day 1 keeps up to 3.
	b := api.Barn{Night: 1, Keep: 2, Days: []api.Market{
		{Price: 1, Fare: 5, Need: span(1, 1)}, {Price: 9, Fare: 5, Need: span(1, 1)},
		{Price: 1, Closed: true, Need: span(1, 1)}, {Closed: true, Need: span(1, 1)},
	}}
	if l := checkBest(t, b, false, 6+2+3+5+11); !slices.Equal(l.Bought, []int{0, 0, 0, 1}) {
		t.Error("P8.2: Best:", l)
	}
	// On each day it costs as much as on the day before it with the night, so that all ways cost the same.
	b = alike(5, 1, 4, api.Market{Price: 3, Need: span(2, 2)})
	for i := range b.Days {
		b.Days[i].Price += i
	}
	checkBest(t, b, true, 2*(3+4+5+6+7))
	for _, w := range ways(b, true) {
		l := api.Lots{Bought: w, Cost: 50, Prices: []int{6, 8, 10, 12, 14}}
		fails(t, "P8.2: CheckBest of a way to and fro", grain.CheckBest(b, true, l), api.OK)
	}
}

// firstDays returns a barn that has so many first days alone.
func firstDays(b api.Barn, days int) api.Barn {
	b.Days = slices.Clone(b.Days[:days])
	return b
}

// furtherOf returns by how much a cheapest way costs more with a bushel more, or the error.
func furtherOf(b api.Barn, most bool, day int) (int, api.Errno) {
	need := needOf(b, most, day)
	if need == api.MaxBushel {
		return 0, api.ErrRange
	}
	less := pricedWays(b, most)
	more := pricedWays(changed(b, func(b *api.Barn) { b.Days[day].Need = span(need+1, need+1) }), most)
	if len(less) == 0 || len(more) == 0 {
		return 0, api.ErrNone
	}
	return more[0].cost - less[0].cost, api.OK
}

// TestBestOfAllBarns holds what is told of cheapest ways against a listing of all ways.
func TestBestOfAllBarns(t *testing.T) {
	d := dice(2)
	kinds := map[string]int{}
	for range 1500 {
		b := d.rolled(1 + d.roll(6))
		least, most := pricedWays(b, false), pricedWays(b, true)
		if len(most) == 0 {
			kinds["none"]++
			_, e := grain.Ends(b)
			fails(t, "P8.3: Ends", e, api.ErrNone)
		} else {
			s, e := grain.Ends(b)
			is(t, "P8.3: Ends", s, e, span(least[0].cost, most[0].cost))
		}
		for i, all := range [][]priced{least, most} {
			if len(all) == 0 {
				_, e := grain.Best(b, i == 1)
				fails(t, "P8.2: Best", e, api.ErrNone)
				continue
			}
			kinds["some"]++
			l := checkBest(t, b, i == 1, all[0].cost)
			for _, w := range cheapestOf(all) {
				other := api.Lots{Bought: w.bought, Cost: w.cost, Prices: l.Prices}
				fails(t, "P8.2: CheckBest of another cheapest way", grain.CheckBest(b, i == 1, other), api.OK)
			}
			var until []int
			for n := range b.Days {
				until = append(until, pricedWays(firstDays(b, n+1), i == 1)[0].cost)
			}
			got, e := grain.Until(b, i == 1)
			if same(t, "P8.6: Until", got, e, until...); t.Failed() {
				t.Fatal(b)
			}
			if !slices.IsSorted(got) {
				t.Fatal("P8.14: Until falls:", got)
			}
		}
	}
	if kinds["none"] < 100 || kinds["some"] < 1000 {
		t.Error("the barns are too much alike:", kinds)
	}
}

func TestFurther(t *testing.T) {
	for day, want := range []int{5, 6, 4, 5} {
		n, e := grain.Further(example(), false, day)
		is(t, "P8.6: Further of the examples", n, e, want)
	}
	full := altered(func(b *api.Barn) { b.Days[1].Need = span(999, 1000); b.Days[3].Need = span(1000, 1000) })
	for _, most := range []bool{false, true} {
		for _, c := range named(input{most: most, day: 3}, "Further") {
			failsAt(t, "P8.6, R4", "a day that needs all", c, full, api.ErrRange)
			failsAt(t, "P8.6, R3", "a day that needs all, without a way", c, changed(full, func(b *api.Barn) { b.Days[0].Closed = true }), api.ErrRange)
		}
	}
	for _, c := range named(input{most: true, day: 1}, "Further") {
		failsAt(t, "P8.6", "a day that can need all", c, full, api.ErrRange)
	}
	n, e := grain.Further(full, false, 1)
	is(t, "P8.6: Further of a day that needs nearly all", n, e, 6)
	// With a bushel more there is no way.
	idle := api.Barn{Days: []api.Market{{Closed: true}, {Price: 3, Fare: 4, Need: span(0, 1)}}}
	for _, most := range []bool{false, true} {
		for _, c := range named(input{most: most}, "Further") {
			failsAt(t, "P8.6", "a day without a market that needs nothing", c, idle, api.ErrNone)
		}
	}
	n, e = grain.Further(idle, false, 1)
	is(t, "P8.6: Further of a day that needs nothing", n, e, 7)
	n, e = grain.Further(idle, true, 1)
	is(t, "P8.6: Further of a day that needs something", n, e, 3)
	n, e = grain.Further(dear(), true, 0)
	fails(t, "P8.6: Further of what is full", e, api.ErrRange)
}

// TestFurtherOfAllBarns holds Further against a listing of all ways.
func TestFurtherOfAllBarns(t *testing.T) {
	d := dice(3)
	kinds := map[api.Errno]int{}
	for range 1200 {
		b, most := d.rolled(1+d.roll(5)), d.roll(2) == 0
		if d.roll(8) == 0 {
			b.Days[d.roll(len(b.Days))].Need = span(999, 1000)
		}
		cheapest := cheapestOf(pricedWays(b, most))
		for day := range b.Days {
			n, e := grain.Further(b, most, day)
			want, f := furtherOf(b, most, day)
			kinds[e]++
			if n != want || e != f {
				t.Fatalf("P8.6: Further of %d of %v, %v: %d, error %d, want %d, error %d", day, b, most, n, e, want, f)
			}
			for _, w := range cheapest {
				if i := w.bought[day]; i >= 0 && n > b.Days[i].Price+b.Night*(day-i) {
					t.Fatalf("P8.14: Further of %d of %v, %v is %d, with the way %v", day, b, most, n, w)
				}
			}
		}
	}
	if kinds[api.OK] < 1000 || kinds[api.ErrNone] < 300 || kinds[api.ErrRange] < 30 {
		t.Error("the barns are too much alike:", kinds)
	}
}

// with returns lots with other prices.
func with(l api.Lots, prices ...int) api.Lots {
	return api.Lots{Bought: l.Bought, Cost: l.Cost, Prices: prices}
}

func TestCheckBest(t *testing.T) {
	p := proved()
	for _, x := range []struct {
		what string
		l    api.Lots
		e    api.Errno
	}{
		{"the example", p, api.OK},
		{"other prices", with(p, 29, 19, 0, 38), api.OK},
		{"prices that are too great for the first two days", with(p, 30, 19, 0, 37), api.ErrProof},
		{"the greatest price of the day 1", with(p, 20, 28, 0, 38), api.OK},
		{"a greater one", with(p, 19, 29, 0, 38), api.ErrProof},
		{"the greatest price of the day 3", with(p, 30, 18, 0, 38), api.OK},
		{"a greater one of the day 3", with(p, 29, 18, 0, 39), api.ErrProof},
		{"a price above what a day alone costs", with(p, 31, 17, 0, 38), api.ErrProof},
		{"prices that are too low together", with(p, 30, 17, 0, 38), api.ErrProof},
		{"prices that are too great together", with(p, 30, 18, 0, 39), api.ErrProof},
		{"a price of what needs nothing", with(p, 30, 18, 1, 37), api.ErrProof},
		{"a price below 0 of what needs nothing", with(p, 30, 18, -1, 39), api.ErrProof},
		{"a price less", with(p, 30, 18, 0), api.ErrProof},
		{"a price less, which all the others make up", with(p, 48, 0, 38), api.ErrProof},
		{"a price more", with(p, 30, 18, 0, 38, 0), api.ErrProof},
		{"no prices", with(p), api.ErrProof},
		{"another cost", api.Lots{Bought: p.Bought, Cost: 85, Prices: []int{30, 17, 0, 38}}, api.ErrProof},
		{"another cost, proved by none", api.Lots{Bought: p.Bought, Cost: 85, Prices: p.Prices}, api.ErrProof},
		{"no cost", api.Lots{Bought: p.Bought, Prices: p.Prices}, api.ErrProof},
		{"a way that is no cheapest one", api.Lots{Bought: []int{0, 0, -1, 3}, Cost: 87, Prices: []int{30, 18, 0, 39}}, api.ErrProof},
		{"a way that is no cheapest one, and the least cost", api.Lots{Bought: []int{0, 0, -1, 3}, Cost: 86, Prices: p.Prices}, api.ErrProof},
		{"no way", api.Lots{Bought: []int{0, 0, 2, 2}, Cost: 86, Prices: p.Prices}, api.ErrProof},
		{"no way, as it does not keep", api.Lots{Bought: []int{0, 0, -1, 0}, Cost: 86, Prices: p.Prices}, api.ErrProof},
		{"a way for less days", api.Lots{Bought: []int{0, 0, -1}, Cost: 48, Prices: []int{30, 18, 0}}, api.ErrProof},
		{"a way for more days", api.Lots{Bought: []int{0, 0, -1, 2, -1}, Cost: 86, Prices: p.Prices}, api.ErrProof},
		{"nothing", api.Lots{}, api.ErrProof},
		{"numbers without bounds", with(p, math.MaxInt, math.MinInt, 0, 87), api.ErrProof},
		{"numbers without bounds, in turns", with(p, math.MinInt, math.MaxInt, 0, 87), api.ErrProof},
		{"a price below all bounds", with(p, -1<<62, 18, 0, 38), api.ErrProof},
	} {
		fails(t, "P8.2: "+x.what, grain.CheckBest(example(), false, x.l), x.e)
	}
	fails(t, "P8.2: the least needs, for the most", grain.CheckBest(example(), true, p), api.ErrProof)
	least := api.Lots{Bought: p.Bought, Cost: 98, Prices: []int{30, 30, 0, 38}}
	fails(t, "P8.2: the most needs", grain.CheckBest(example(), true, least), api.OK)
	fails(t, "P8.2: the most needs, for the least", grain.CheckBest(example(), false, least), api.ErrProof)
}

// TestProofs holds CheckBest to each of the sentences by which prices prove something.
func TestProofs(t *testing.T) {
	// What is closed proves nothing: with a market on the day 1 it would cost less.
	b := api.Barn{Night: 1, Keep: 2, Days: []api.Market{{Price: 9, Fare: 4, Need: span(1, 1)}, {Closed: true, Need: span(1, 1)}, {Closed: true, Need: span(1, 1)}}}
	l := api.Lots{Bought: []int{0, 0, 0}, Cost: 34, Prices: []int{13, 10, 11}}
	fails(t, "P8.2: days without a market", grain.CheckBest(b, false, l), api.OK)
	b.Days[1].Closed = false
	fails(t, "P8.2: a day with a market", grain.CheckBest(b, false, l), api.ErrProof)
	b.Days[1] = api.Market{Price: 10, Need: span(1, 1)}
	fails(t, "P8.2: a day with a market that is no cheaper", grain.CheckBest(b, false, l), api.OK)
	b.Days[1].Price = 9
	fails(t, "P8.2: a day with a market that is cheaper for the two last days", grain.CheckBest(b, false, l), api.ErrProof)
	// Days that follow each other only together tell that the fare of the first one is less.
	b = api.Barn{Keep: 4, Days: slices.Repeat([]api.Market{{Price: 1, Fare: 9, Need: span(1, 1)}}, 5)}
	all := []int{0, 0, 0, 0, 0}
	fails(t, "P8.2: a fare that all days bear", grain.CheckBest(b, true, api.Lots{Bought: all, Cost: 14, Prices: []int{2, 3, 3, 3, 3}}), api.OK)
	fails(t, "P8.2: a fare that the last day bears", grain.CheckBest(b, true, api.Lots{Bought: all, Cost: 14, Prices: []int{1, 1, 1, 1, 10}}), api.OK)
	fails(t, "P8.2: prices less than 0", grain.CheckBest(b, true, api.Lots{Bought: all, Cost: 14, Prices: []int{10, -4, 1, 1, 6}}), api.OK)
	fails(t, "P8.2: a fare that the days between bear, and more", grain.CheckBest(b, true, api.Lots{Bought: all, Cost: 14, Prices: []int{0, 6, 4, 4, 0}}), api.ErrProof)
	fails(t, "P8.2: a fare that the last days bear, and more", grain.CheckBest(b, true, api.Lots{Bought: all, Cost: 14, Prices: []int{0, 0, 2, 6, 6}}), api.ErrProof)
	b.Keep = 3
	fails(t, "P8.2: a way in which it does not keep", grain.CheckBest(b, true, api.Lots{Bought: all, Cost: 14, Prices: []int{2, 3, 3, 3, 3}}), api.ErrProof)
	two := []int{0, 0, 0, 0, 4}
	fails(t, "P8.2: prices of days for which one cannot buy together", grain.CheckBest(b, true, api.Lots{Bought: two, Cost: 23, Prices: []int{10, 1, 1, 1, 10}}), api.OK)
	fails(t, "P8.2: the prices of the last ones of these", grain.CheckBest(b, true, api.Lots{Bought: two, Cost: 23, Prices: []int{9, 2, 1, 1, 10}}), api.ErrProof)
	wide := []int{-1 << 62, -1 << 62, -1 << 62, -1<<62 + 23, 0}
	fails(t, "P8.2: prices whose sum has no bounds", grain.CheckBest(b, true, api.Lots{Bought: two, Cost: 23, Prices: wide}), api.ErrProof)
}

// twist returns lots with some change.
func (d *dice) twist(b api.Barn, most bool, all []priced, l api.Lots) api.Lots {
	l.Bought, l.Prices = slices.Clone(l.Bought), slices.Clone(l.Prices)
	at := d.roll(len(l.Bought))
	switch d.roll(9) {
	case 0:
		l.Bought[at] += 2*d.roll(2) - 1
	case 1:
		l.Cost += d.roll(3) - 1
	case 2:
		w := all[d.roll(len(all))]
		l.Bought, l.Cost = slices.Clone(w.bought), w.cost
	case 3:
		best := cheapestOf(all)
		l.Bought = slices.Clone(best[d.roll(len(best))].bought)
	case 4:
		l.Prices[at] += d.roll(3) - 1
	default:
		by := d.roll(5) - 2
		l.Prices[at] += by
		l.Prices[d.roll(len(l.Prices))] -= by
	}
	return l
}

func TestTwistedLots(t *testing.T) {
	d := dice(4)
	var accepted, refused int
	for range 5000 {
		b, most := d.rolled(1+d.roll(5)), d.roll(2) == 0
		all := pricedWays(b, most)
		if len(all) == 0 {
			continue
		}
		l, _ := grain.Best(b, most)
		for range 1 + d.roll(3) {
			l = d.twist(b, most, all, l)
		}
		e := grain.CheckBest(b, most, l)
		if !isProved(b, most, l) {
			refused++
			if fails(t, "P8.2: CheckBest", e, api.ErrProof); t.Failed() {
				t.Fatal(b, most, l)
			}
			continue
		}
		accepted++
		if e != api.OK || l.Cost != all[0].cost {
			t.Fatalf("P8.2, P8.12: CheckBest of %v for %v: error %d", l, b, e)
		}
	}
	if accepted < 500 || refused < 500 {
		t.Error("too much alike:", accepted, refused)
	}
}

func TestEnds(t *testing.T) {
	s, e := grain.Ends(example())
	is(t, "P8.3: Ends of the examples", s, e, span(86, 98))
	s, e = grain.Ends(lone(api.Market{Price: 7, Fare: 3, Need: span(0, 2)}))
	is(t, "P8.3: Ends of a day that may need nothing", s, e, span(0, 17))
	s, e = grain.Ends(lone(api.Market{Price: 7, Fare: 3, Need: span(0, 0)}))
	is(t, "P8.3: Ends of a day that needs nothing", s, e, span(0, 0))
	for _, c := range named(input{}, "Ends") {
		failsAt(t, "P8.3, R4", "a day that may need something, without a market", c, lone(api.Market{Closed: true, Need: span(0, 1)}), api.ErrNone)
	}
}

// TestBetweenTheEnds holds Ends to needs between the least and the most.
func TestBetweenTheEnds(t *testing.T) {
	d := dice(5)
	for range 1000 {
		b := d.rolled(1 + d.roll(9))
		s, e := grain.Ends(b)
		if e != api.OK {
			continue
		}
		for i := range b.Days {
			n := b.Days[i].Need
			at := n.Lo + d.roll(n.Hi-n.Lo+1)
			b.Days[i].Need = span(at, at)
		}
		between, e := grain.Ends(b)
		if e != api.OK || between.Lo != between.Hi || between.Lo < s.Lo || between.Lo > s.Hi {
			t.Fatalf("P8.3: Ends of %v: %v, error %d, not within %v", b, between, e, s)
		}
	}
}

func TestUntil(t *testing.T) {
	l, e := grain.Until(example(), false)
	same(t, "P8.6: Until of the examples", l, e, 30, 48, 48, 86)
	l, e = grain.Until(example(), true)
	same(t, "P8.6: Until for the most of the examples", l, e, 30, 60, 60, 98)
	l, e = grain.Until(lone(api.Market{Closed: true}), true)
	same(t, "P8.6: Until of a day that needs nothing", l, e, 0)
	l, e = grain.Until(alike(60, 0, 60, api.Market{Price: 1, Fare: 5, Need: span(1, 1)}), true)
	if e != api.OK || len(l) != 60 || l[0] != 6 || l[59] != 65 {
		t.Error("P8.6: Until of 60 days:", l, e)
	}
	l, e = grain.Until(altered(func(b *api.Barn) { b.Days[2].Closed, b.Days[3].Closed = true, true; b.Keep = 1 }), false)
	if e != api.ErrNone || len(l) != 0 {
		t.Error("P8.6: Until, without a way for the last day:", l, e)
	}
}

// costs returns what a cheapest way costs, or what is more than any costs.
func costs(b api.Barn, most bool) int {
	l, e := grain.Best(b, most)
	if e != api.OK {
		return none
	}
	return l.Cost
}

// TestMore holds Best to barns in which something is more.
func TestMore(t *testing.T) {
	d := dice(6)
	differs := map[string]int{}
	for range 1500 {
		b, most := d.rolled(1+d.roll(8)), d.roll(2) == 0
		if d.roll(4) == 0 {
			b = d.great(1 + d.roll(60))
		}
		now, day := costs(b, most), d.roll(len(b.Days))
		for what, change := range map[string]func(b *api.Barn){
			"need":   func(b *api.Barn) { m := &b.Days[day].Need; *m = span(min(m.Lo+1, 1000), min(m.Hi+1, 1000)) },
			"price":  func(b *api.Barn) { b.Days[day].Price = min(b.Days[day].Price+1, 1000) },
			"fare":   func(b *api.Barn) { b.Days[day].Fare = min(b.Days[day].Fare+1, 100000) },
			"night":  func(b *api.Barn) { b.Night = min(b.Night+1, 1000) },
			"market": func(b *api.Barn) { b.Days[day].Closed = true },
		} {
			more := costs(changed(b, change), most)
			if more < now {
				t.Fatalf("P8.14: with a greater %s of %d of %v it costs %d, and not %d", what, day, b, more, now)
			}
			if more > now {
				differs[what]++
			}
		}
		longer := costs(changed(b, func(b *api.Barn) { b.Keep = min(b.Keep+1, 60) }), most)
		if longer > now {
			t.Fatalf("P8.14: with a longer Keep of %v it costs %d, and not %d", b, longer, now)
		}
		if longer < now {
			differs["keep"]++
		}
	}
	for _, what := range []string{"need", "price", "fare", "night", "market", "keep"} {
		if differs[what] < 50 {
			t.Error("the barns are too much alike:", differs)
		}
	}
}

// TestGreatBarns holds Best of barns of up to 60 days to its own proof, and what is told of the first days and of further bushels to that.
func TestGreatBarns(t *testing.T) {
	d := dice(7)
	some := 0
	for range 150 {
		b, most := d.great(1+d.roll(60)), d.roll(2) == 0
		l, e := grain.Best(b, most)
		if e != api.OK {
			continue
		}
		some++
		checkBest(t, b, most, l.Cost)
		until, e := grain.Until(b, most)
		if e != api.OK || until[len(until)-1] != l.Cost {
			t.Fatalf("P8.6: Until of %v: %v, error %d", b, until, e)
		}
		n := d.roll(len(b.Days))
		checkBest(t, firstDays(b, n+1), most, until[n])
		need := needOf(b, most, n)
		more, e := grain.Further(b, most, n)
		if e == api.OK {
			checkBest(t, changed(b, func(b *api.Barn) { b.Days[n].Need = span(need+1, need+1) }), most, l.Cost+more)
		}
	}
	if some < 100 {
		t.Error("the barns are too much alike:", some)
	}
}
