package grain_test

import (
	"slices"
	"testing"

	"potence/api"
	"potence/grain"
)

func TestExamplesOfDays(t *testing.T) {
	for _, most := range []bool{false, true} {
		l, e := grain.Surely(example(), most)
		same(t, "P8.4: Surely of the examples", l, e, 0, 2)
		l, e = grain.Possibly(example(), most)
		same(t, "P8.4: Possibly of the examples", l, e, 0, 2)
	}
	for day, want := range []int{0, 11, 0, 1} {
		n, e := grain.Made(example(), false, day)
		is(t, "P8.4: Made of the examples", n, e, want)
	}
	n, e := grain.Made(example(), true, 1)
	is(t, "P8.4: Made for the most of the examples", n, e, 17)
	for day, want := range []int{1000, 5, 4, 5} {
		n, is, e := grain.Offer(example(), false, day)
		if e != api.OK || !is || n != want {
			t.Errorf("P8.7: Offer of %d of the examples: %d, %v, error %d, want %d", day, n, is, e, want)
		}
	}
}

func TestSurelyAndPossibly(t *testing.T) {
	nothing := lone(api.Market{Price: 3, Fare: 4})
	two := alike(2, 1, 1, api.Market{Price: 3, Fare: 5, Need: span(5, 5)})
	free := alike(3, 0, 2, api.Market{Price: 3, Need: span(1, 1)})
	for _, x := range []struct {
		what           string
		b              api.Barn
		surely, possib []int
	}{
		{"a day that needs nothing", nothing, nil, nil},
		{"a day that needs something", lone(api.Market{Need: span(1, 1)}), []int{0}, []int{0}},
		{"one day or two", two, []int{0}, []int{0, 1}},
		{"one day, as the fare is greater", changed(two, func(b *api.Barn) { b.Days[1].Fare = 6 }), []int{0}, []int{0}},
		{"two days, as the fare is less", changed(two, func(b *api.Barn) { b.Days[1].Fare = 4 }), []int{0, 1}, []int{0, 1}},
		{"days that cost the same", free, []int{0}, []int{0, 1, 2}},
		{"days that cost the same, behind one that needs nothing", changed(free, func(b *api.Barn) { b.Days[0].Need = span(0, 0) }), nil, []int{0, 1, 2}},
		{"what does not keep", changed(free, func(b *api.Barn) { b.Keep = 0 }), []int{0, 1, 2}, []int{0, 1, 2}},
		{"what does not keep, of less days", changed(free, func(b *api.Barn) { b.Keep = 0; b.Days[1] = api.Market{} }), []int{0, 2}, []int{0, 2}},
		{"days without a market", dear(), []int{0}, []int{0}},
		{"the last day", changed(free, func(b *api.Barn) { b.Days[0].Need, b.Days[1].Need = span(0, 0), span(0, 0); b.Night = 1 }), []int{2}, []int{2}},
	} {
		for _, most := range []bool{false, true} {
			l, e := grain.Surely(x.b, most)
			same(t, "P8.4: Surely of "+x.what, l, e, x.surely...)
			l, e = grain.Possibly(x.b, most)
			same(t, "P8.4: Possibly of "+x.what, l, e, x.possib...)
		}
	}
}

func TestMade(t *testing.T) {
	// It is bought at a loss for the day that needs least, between two others for which it is bought on the day 1.
	between := api.Barn{Keep: 3, Days: []api.Market{{Price: 10, Fare: 2}, {Price: 1, Need: span(100, 100)}, {Need: span(1, 1), Closed: true}, {Need: span(100, 100), Closed: true}}}
	n, e := grain.Made(between, false, 0)
	is(t, "P8.4: Made of a day at a loss", n, e, 11)
	between.Keep = 1
	for _, c := range named(input{day: 1}, "Made", "Offer") {
		failsAt(t, "P8.4, P8.7, R4", "a day, where there is no way for another one", c, between, api.ErrNone)
	}
	between.Keep = 2
	n, e = grain.Made(between, false, 0)
	is(t, "P8.4: Made of a day at a loss that does not keep", n, e, 11)
	// A day that needs nothing is no reason to buy.
	idle := api.Barn{Keep: 2, Days: []api.Market{{Need: span(1, 1)}, {}, {}}}
	for day := 1; day < 3; day++ {
		for _, c := range named(input{day: day}, "Made", "Offer") {
			failsAt(t, "P8.4, P8.7, R4", "a day ahead of days that need nothing", c, idle, api.ErrNone)
		}
	}
	n, e = grain.Made(idle, false, 0)
	is(t, "P8.4: Made of the day that needs something", n, e, 0)
	shut := altered(func(b *api.Barn) { b.Days[3].Closed = true })
	for _, most := range []bool{false, true} {
		for _, c := range named(input{most: most, day: 3}, "Made", "Offer") {
			failsAt(t, "P8.4, P8.7, R4", "a day without a market", c, shut, api.ErrNone)
		}
	}
	some := lone(api.Market{Need: span(0, 1)})
	for _, c := range named(input{}, "Made", "Offer") {
		failsAt(t, "P8.4, P8.7, R4", "a day that may need something", c, some, api.ErrNone)
	}
	n, e = grain.Made(some, true, 0)
	is(t, "P8.4: Made for the most", n, e, 0)
}

func TestOffer(t *testing.T) {
	two := alike(2, 1, 1, api.Market{Price: 3, Fare: 5, Need: span(5, 5)})
	for _, x := range []struct {
		what string
		b    api.Barn
		day  int
		want int
		is   bool
	}{
		{"the only day", lone(api.Market{Need: span(1, 1)}), 0, 1000, true},
		{"the only day with a market", dear(), 0, 1000, true},
		{"a day for which it can be bought before", two, 1, 3, true},
		{"a day with a greater fare", changed(two, func(b *api.Barn) { b.Days[1].Fare = 6 }), 1, 2, true},
		{"a day with the greatest fare", changed(two, func(b *api.Barn) { b.Days[1].Fare = 20 }), 1, 0, true},
		{"a day with too great a fare", changed(two, func(b *api.Barn) { b.Days[1].Fare = 21 }), 1, 0, false},
		{"a day with its own price", changed(two, func(b *api.Barn) { b.Days[1].Price = 1000 }), 1, 3, true},
		{"a day behind a dear one", changed(two, func(b *api.Barn) { b.Days[0].Price = 1000; b.Night = 1000; b.Days[1].Fare = 0 }), 1, 1000, true},
		{"a day behind a less dear one", changed(two, func(b *api.Barn) { b.Days[0].Price = 998; b.Days[1].Fare = 0 }), 1, 999, true},
		{"a day behind one that is as dear", changed(two, func(b *api.Barn) { b.Days[0].Price = 999; b.Days[1].Fare = 0 }), 1, 1000, true},
	} {
		for _, most := range []bool{false, true} {
			n, is, e := grain.Offer(x.b, most, x.day)
			if e != api.OK || is != x.is || n != x.want {
				t.Errorf("P8.7: Offer of %s: %d, %v, error %d, want %d, %v", x.what, n, is, e, x.want, x.is)
			}
		}
	}
}

// offerOf returns the greatest price with which a day occurs in a cheapest way, and whether there is one: each way in which it occurs costs its bushels times the price, and what it costs at the price 0.
func offerOf(b api.Barn, most bool, day int) (int, bool) {
	free := pricedWays(changed(b, func(b *api.Barn) { b.Days[day].Price = 0 }), most)
	for price := api.MaxPrice; price >= 0; price-- {
		with, without := none, none
		for _, w := range free {
			bushels := 0
			for t, i := range w.bought {
				if i == day {
					bushels += needOf(b, most, t)
				}
			}
			if bushels > 0 {
				with = min(with, w.cost+price*bushels)
			} else {
				without = min(without, w.cost)
			}
		}
		if with <= without {
			return price, true
		}
	}
	return 0, false
}

// TestDaysOfAllBarns holds what is told of days against a listing of all ways.
func TestDaysOfAllBarns(t *testing.T) {
	d := dice(8)
	kinds := map[string]int{}
	for range 3000 {
		b, most := d.rolled(1+d.roll(6)), d.roll(2) == 0
		all := pricedWays(b, most)
		surely, e := grain.Surely(b, most)
		possibly, f := grain.Possibly(b, most)
		if len(all) == 0 {
			fails(t, "P8.4: Surely", e, api.ErrNone)
			fails(t, "P8.4: Possibly", f, api.ErrNone)
			continue
		}
		var must, can []int
		for day := range b.Days {
			times := 0
			for _, w := range cheapestOf(all) {
				if slices.Contains(w.bought, day) {
					times++
				}
			}
			if times > 0 {
				can = append(can, day)
			}
			if times == len(cheapestOf(all)) {
				must = append(must, day)
			}
			cost, is := through(all, day)
			n, e := grain.Made(b, most, day)
			switch {
			case !is && (e != api.ErrNone || n != 0), is && (e != api.OK || n != cost-all[0].cost):
				t.Fatalf("P8.4: Made of %d of %v, %v: %d, error %d", day, b, most, n, e)
			case n > 0:
				kinds["at a loss"]++
			}
		}
		same(t, "P8.4: Surely", surely, e, must...)
		same(t, "P8.4: Possibly", possibly, f, can...)
		if t.Failed() {
			t.Fatal(b, most)
		}
		kinds["sure"] += len(must)
		kinds["possible"] += len(can)
	}
	if kinds["at a loss"] < 300 || kinds["sure"] < 300 || kinds["possible"] < kinds["sure"]+300 {
		t.Error("the barns are too much alike:", kinds)
	}
}

func TestOffersOfAllBarns(t *testing.T) {
	d := dice(9)
	kinds := map[bool]int{}
	for range 500 {
		b, most := d.rolled(1+d.roll(4)), d.roll(2) == 0
		if d.roll(3) == 0 {
			b.Days[d.roll(len(b.Days))].Fare = d.roll(40)
			b.Days[d.roll(len(b.Days))].Price = 990 + d.roll(11)
		}
		all := pricedWays(b, most)
		for day := range b.Days {
			n, is, e := grain.Offer(b, most, day)
			if _, can := through(all, day); !can {
				if e != api.ErrNone || is || n != 0 {
					t.Fatalf("P8.7: Offer of %d of %v: %d, %v, error %d", day, b, n, is, e)
				}
				continue
			}
			want, has := offerOf(b, most, day)
			kinds[has && want < 1000]++
			if e != api.OK || is != has || n != want {
				t.Fatalf("P8.7: Offer of %d of %v, %v: %d, %v, error %d, want %d, %v", day, b, most, n, is, e, want, has)
			}
		}
	}
	if kinds[true] < 100 || kinds[false] < 100 {
		t.Error("the barns are too much alike:", kinds)
	}
}

// checkDays holds what is told of the days of a barn, in which there is a way, against each other.
func checkDays(t *testing.T, b api.Barn, most bool) {
	t.Helper()
	cost := costs(b, most)
	surely, e := grain.Surely(b, most)
	fails(t, "P8.4: Surely", e, api.OK)
	possibly, e := grain.Possibly(b, most)
	fails(t, "P8.4: Possibly", e, api.OK)
	for _, i := range daysOf(checkBest(t, b, most, cost).Bought) {
		if !slices.Contains(possibly, i) {
			t.Fatalf("P8.4: %d of %v is not Possibly bought on: %v", i, b, possibly)
		}
	}
	for day := range b.Days {
		can, must := slices.Contains(possibly, day), slices.Contains(surely, day)
		n, e := grain.Made(b, most, day)
		if can != (e == api.OK && n == 0) || must && !can {
			t.Fatalf("P8.13: Made of %d of %v, %v: %d, error %d, but Possibly %v, Surely %v", day, b, most, n, e, possibly, surely)
		}
		shut, f := grain.Close(b, day)
		if f != api.OK || must != (costs(shut, most) > cost) {
			t.Fatalf("P8.13: %d of %v, %v is closed for %d, but Surely %v", day, b, most, costs(shut, most), surely)
		}
		checkOffer(t, b, most, day, e == api.OK)
	}
}

// checkOffer holds Offer to whether a day is bought on with its price, and with one more, if it is bought on in some way.
func checkOffer(t *testing.T, b api.Barn, most bool, day int, some bool) {
	t.Helper()
	price, is, e := grain.Offer(b, most, day)
	if some != (e == api.OK) || !some && (e != api.ErrNone || is) || !is && price != 0 {
		t.Fatalf("P8.7: Offer of %d of %v, %v: %d, %v, error %d", day, b, most, price, is, e)
	}
	if !some {
		return
	}
	isBought := func(price int) bool {
		n, e := grain.Made(changed(b, func(b *api.Barn) { b.Days[day].Price = price }), most, day)
		return e == api.OK && n == 0
	}
	if is && !isBought(price) || !is && isBought(0) || is && price < api.MaxPrice && isBought(price+1) {
		t.Fatalf("P8.15: Offer of %d of %v, %v: %d, %v", day, b, most, price, is)
	}
}

// TestDaysOfManyBarns holds what is told of days, for needs, prices and fares of any size, to what follows from it, and Made against all sets of markets.
func TestDaysOfManyBarns(t *testing.T) {
	d := dice(10)
	for range 60 {
		b, most := d.great(1+d.roll(9)), d.roll(2) == 0
		best, with := byMarkets(b, most)
		if best == none {
			continue
		}
		checkBest(t, b, most, best)
		checkDays(t, b, most)
		for day := range b.Days {
			n, e := grain.Made(b, most, day)
			if with[day] == none && e != api.ErrNone || with[day] < none && (e != api.OK || n != with[day]-best) {
				t.Fatalf("P8.4: Made of %d of %v, %v: %d, error %d, want %d", day, b, most, n, e, with[day]-best)
			}
		}
	}
	for _, b := range []api.Barn{example(), dear(), alike(60, 0, 60, api.Market{Price: 3, Need: span(1, 2)}), alike(60, 1, 7, api.Market{Price: 4, Fare: 28, Need: span(0, 3)})} {
		checkDays(t, b, true)
	}
	for range 3 {
		b := d.great(60)
		if b.Keep = 60; costs(b, false) < none {
			checkDays(t, b, false)
		}
	}
}
