package grain_test

import (
	"math"
	"reflect"
	"slices"
	"testing"

	"potence/api"
	"potence/grain"
)

// example returns the barn of the chapter's examples.
func example() api.Barn {
	return api.Barn{Night: 1, Keep: 2, Days: []api.Market{
		{Price: 5, Fare: 10, Need: span(4, 4)},
		{Price: 9, Fare: 2, Need: span(3, 5)},
		{Price: 4, Fare: 8, Need: span(0, 0)},
		{Price: 6, Fare: 3, Need: span(6, 6)},
	}}
}

// span returns a span.
func span(lo, hi int) api.Span { return api.Span{Lo: lo, Hi: hi} }

// altered returns the barn of the examples with a change.
func altered(change func(b *api.Barn)) api.Barn { return changed(example(), change) }

// lone returns a barn of one day.
func lone(m api.Market) api.Barn { return api.Barn{Days: []api.Market{m}} }

// alike returns a barn of so many days that are all alike.
func alike(days, night, keep int, m api.Market) api.Barn {
	return api.Barn{Night: night, Keep: keep, Days: slices.Repeat([]api.Market{m}, days)}
}

// dear returns the barn in which a way costs as much as one can: as many days as there may be, all in need of all that they can be, with a market on the first one alone.
func dear() api.Barn {
	b := alike(60, 1000, 60, api.Market{Price: 1000, Fare: 100000, Closed: true, Need: span(1000, 1000)})
	b.Days[0].Closed = false
	return b
}

// shut returns the barn of the examples without a market on the days before the last one, so that there is no way.
func shut() api.Barn {
	return altered(func(b *api.Barn) { b.Days[0].Closed, b.Days[1].Closed, b.Days[2].Closed = true, true, true })
}

// barns returns some barns that have no errors; in the last two ones there is no way.
func barns() []api.Barn {
	return []api.Barn{example(), lone(api.Market{}), lone(api.Market{Price: 7, Fare: 3, Need: span(0, 2)}),
		lone(api.Market{Closed: true}), alike(60, 1, 5, api.Market{Price: 2, Fare: 9, Need: span(1, 4)}),
		altered(func(b *api.Barn) { b.Keep = 0 }), dear(), shut(), lone(api.Market{Closed: true, Need: span(1, 1)})}
}

// fails reports a promise whose error is not the one that is wanted.
func fails(t *testing.T, what string, got, want api.Errno) {
	t.Helper()
	if got != want {
		t.Errorf("%s: got error %d, want %d", what, got, want)
	}
}

// is reports a promise whose result is not the one that is wanted.
func is[T comparable](t *testing.T, what string, got T, e api.Errno, want T) {
	t.Helper()
	if e != api.OK || got != want {
		t.Errorf("%s: got %v, error %d, want %v", what, got, e, want)
	}
}

// same reports a promise whose list is not the one that is wanted.
func same[T comparable](t *testing.T, what string, got []T, e api.Errno, want ...T) {
	t.Helper()
	if e != api.OK || !slices.Equal(got, want) {
		t.Errorf("%s: got %v, error %d, want %v", what, got, e, want)
	}
}

// wrong is a barn that has an error, which is its first one.
type wrong struct {
	what string
	b    api.Barn
	e    api.Errno
}

// wrongDays returns barns of which a day is not right.
func wrongDays() []wrong {
	var all []wrong
	for i := range 4 {
		bad := func(what string, change func(m *api.Market)) {
			all = append(all, wrong{what, altered(func(b *api.Barn) { change(&b.Days[i]) }), api.ErrArg})
			all = append(all, wrong{what + ", without a market", altered(func(b *api.Barn) { b.Days[i].Closed = true; change(&b.Days[i]) }), api.ErrArg})
		}
		for _, n := range []int{-1, 1001, math.MinInt, math.MaxInt} {
			bad("price", func(m *api.Market) { m.Price = n })
			bad("need", func(m *api.Market) { m.Need = span(n, n) })
		}
		for _, n := range []int{-1, 100001, math.MinInt, math.MaxInt} {
			bad("fare", func(m *api.Market) { m.Fare = n })
		}
		for _, s := range []api.Span{span(-1, 5), span(5, 1001), span(5, 4), span(1, 0), span(1000, 999), span(math.MinInt, math.MaxInt), span(math.MaxInt, math.MinInt), span(0, -1), span(1001, 1000)} {
			bad("need", func(m *api.Market) { m.Need = s })
		}
	}
	return all
}

// wrongBarns returns barns that have errors.
func wrongBarns() []wrong {
	all := wrongDays()
	for _, n := range []int{-1, 1001, math.MinInt, math.MaxInt} {
		all = append(all, wrong{"night", altered(func(b *api.Barn) { b.Night = n }), api.ErrArg},
			wrong{"night of 61 days", alike(61, n, 1, api.Market{}), api.ErrArg})
	}
	for _, n := range []int{-1, 61, math.MinInt, math.MaxInt} {
		all = append(all, wrong{"keep", altered(func(b *api.Barn) { b.Keep = n }), api.ErrArg},
			wrong{"keep of 61 days", alike(61, 1, n, api.Market{}), api.ErrArg})
	}
	return append(all,
		wrong{"61 days", alike(61, 1, 1, api.Market{}), api.ErrLimit},
		wrong{"61 days that are not right", alike(61, 1, 1, api.Market{Price: -1}), api.ErrLimit},
		wrong{"1000 days", alike(1000, 1, 1, api.Market{Price: -1}), api.ErrLimit},
		wrong{"60 days that are not right", alike(60, 1, 1, api.Market{Price: -1}), api.ErrArg},
		wrong{"no days", api.Barn{}, api.ErrArg},
		wrong{"no days, but a list", api.Barn{Days: []api.Market{}}, api.ErrArg})
}

func TestCheck(t *testing.T) {
	right := append(barns(),
		lone(api.Market{Price: 1000, Fare: 100000, Need: span(0, 1000)}),
		api.Barn{Night: 1000, Keep: 60, Days: []api.Market{{Price: 1000, Fare: 100000, Closed: true, Need: span(1000, 1000)}}},
		alike(60, 0, 0, api.Market{}))
	for i, b := range right {
		if e := grain.Check(b); e != api.OK {
			t.Errorf("P8.1: the right barn %d: error %d", i, e)
		}
	}
	for _, x := range wrongBarns() {
		fails(t, "P8.1: "+x.what, grain.Check(x.b), x.e)
	}
}

// call is a function with a barn: its results but for the error.
type call struct {
	name string
	do   func(b api.Barn) ([]any, api.Errno)
}

// one and two return the results of a function in one list.
func one[T any](x T, e api.Errno) ([]any, api.Errno) { return []any{x}, e }

func two[T, U any](x T, y U, e api.Errno) ([]any, api.Errno) { return []any{x, y}, e }

// input is what the functions are given beside a barn.
type input struct {
	most         bool
	day, bushels int
	l            api.Lots
}

// calls returns all functions with a barn.
func calls(x input) []call {
	return []call{
		{"Check", func(b api.Barn) ([]any, api.Errno) { return nil, grain.Check(b) }},
		{"Cost", func(b api.Barn) ([]any, api.Errno) { return one(grain.Cost(b, x.most, x.l.Bought)) }},
		{"Best", func(b api.Barn) ([]any, api.Errno) { return one(grain.Best(b, x.most)) }},
		{"CheckBest", func(b api.Barn) ([]any, api.Errno) { return nil, grain.CheckBest(b, x.most, x.l) }},
		{"Ends", func(b api.Barn) ([]any, api.Errno) { return one(grain.Ends(b)) }},
		{"Surely", func(b api.Barn) ([]any, api.Errno) { return one(grain.Surely(b, x.most)) }},
		{"Possibly", func(b api.Barn) ([]any, api.Errno) { return one(grain.Possibly(b, x.most)) }},
		{"Made", func(b api.Barn) ([]any, api.Errno) { return one(grain.Made(b, x.most, x.day)) }},
		{"Close", func(b api.Barn) ([]any, api.Errno) { return one(grain.Close(b, x.day)) }},
		{"Need", func(b api.Barn) ([]any, api.Errno) { return one(grain.Need(b, x.day, x.bushels)) }},
		{"Further", func(b api.Barn) ([]any, api.Errno) { return one(grain.Further(b, x.most, x.day)) }},
		{"Until", func(b api.Barn) ([]any, api.Errno) { return one(grain.Until(b, x.most)) }},
		{"Offer", func(b api.Barn) ([]any, api.Errno) { return two(grain.Offer(b, x.most, x.day)) }},
		{"Lines", func(b api.Barn) ([]any, api.Errno) { return one(grain.Lines(b, x.most, x.l)) }},
	}
}

// named returns those of all functions that have one of some names.
func named(x input, names ...string) []call {
	return slices.DeleteFunc(calls(x), func(c call) bool { return !slices.Contains(names, c.name) })
}

// isZero says whether a result is a zero value, or an empty list.
func isZero(x any) bool {
	v := reflect.ValueOf(x)
	return v.IsZero() || v.Kind() == reflect.Slice && v.Len() == 0
}

// failsAt reports a function that does not return just an error.
func failsAt(t *testing.T, promise, what string, c call, b api.Barn, want api.Errno) {
	t.Helper()
	got, e := c.do(b)
	if e != want || slices.ContainsFunc(got, func(x any) bool { return !isZero(x) }) {
		t.Errorf("%s: %s of %s: %v, error %d, want %d", promise, c.name, what, got, e, want)
	}
}

// proved returns a cheapest way for the least needs of the examples, with prices that prove it.
func proved() api.Lots {
	return api.Lots{Bought: []int{0, 0, -1, 2}, Cost: 86, Prices: []int{30, 18, 0, 38}}
}

// strange are numbers that are neither those of days nor of bushels.
var strange = []int{-1, 1001, math.MinInt, math.MaxInt}

func TestFirstErrors(t *testing.T) {
	inputs := []input{{false, 1, 5, proved()}, {true, 0, 0, api.Lots{}}}
	for _, n := range strange {
		inputs = append(inputs, input{true, n, n, api.Lots{Bought: []int{n}, Cost: n, Prices: []int{n}}})
	}
	for _, x := range wrongBarns() {
		for _, in := range inputs {
			for _, c := range calls(in) {
				failsAt(t, "P8.1, R3, R4", x.what, c, x.b, x.e)
			}
		}
	}
}

func TestErrorsOfDays(t *testing.T) {
	need := altered(func(b *api.Barn) { b.Days[3].Need = span(1000, 1000) })
	for _, day := range append(strange, 4, 60) {
		for _, bushels := range append(strange, 4) {
			for _, most := range []bool{false, true} {
				for _, c := range named(input{most: most, day: day, bushels: bushels}, "Made", "Close", "Need", "Further", "Offer") {
					failsAt(t, "P8.4 to P8.7, R3, R4", "a day that there is not", c, example(), api.ErrArg)
					failsAt(t, "P8.4 to P8.7, R3, R4", "a day that there is not, without a way", c, shut(), api.ErrArg)
					failsAt(t, "P8.6, R3", "a day that there is not, behind one that needs all", c, need, api.ErrArg)
				}
			}
		}
	}
}

func TestErrorsWithoutWays(t *testing.T) {
	for _, b := range []api.Barn{shut(), lone(api.Market{Closed: true, Need: span(1, 1)}),
		altered(func(b *api.Barn) { b.Days[0].Closed = true }),
		altered(func(b *api.Barn) { b.Keep = 0; b.Days[3].Closed = true }),
		altered(func(b *api.Barn) { b.Days = slices.Repeat(b.Days, 15); b.Keep = 0; b.Days[56].Closed = true })} {
		for _, most := range []bool{false, true} {
			for day := range b.Days {
				in := input{most, day, 1, api.Lots{Bought: slices.Repeat([]int{0}, len(b.Days)), Prices: make([]int, len(b.Days))}}
				for _, c := range named(in, "Best", "Ends", "Surely", "Possibly", "Made", "Further", "Until", "Offer") {
					failsAt(t, "P8.2 to P8.7, R4", "a barn without a way", c, b, api.ErrNone)
				}
				for _, c := range named(in, "CheckBest") {
					failsAt(t, "P8.2, R4", "a barn without a way", c, b, api.ErrProof)
				}
				for _, c := range named(in, "Lines") {
					failsAt(t, "P8.11, R4", "a barn without a way", c, b, api.ErrState)
				}
				for _, c := range named(in, "Cost") {
					failsAt(t, "P8.1, R4", "a barn without a way", c, b, api.ErrArg)
				}
			}
		}
	}
}

func TestCost(t *testing.T) {
	for _, x := range []struct {
		bought []int
		most   bool
		want   int
	}{
		{[]int{0, 0, -1, 2}, false, 86}, {[]int{0, 0, -1, 2}, true, 98}, {[]int{0, 1, -1, 1}, false, 30 + 29 + 66}, {[]int{0, 1, -1, 3}, true, 30 + 47 + 39},
		{[]int{0, 1, -1, 3}, false, 30 + 29 + 39},
	} {
		n, e := grain.Cost(example(), x.most, x.bought)
		is(t, "P8.1: Cost", n, e, x.want)
	}
	n, e := grain.Cost(dear(), false, make([]int, 60))
	is(t, "P8.1: Cost of a dear way", n, e, 100000+60*1000*1000+1000*1000*59*60/2)
	n, e = grain.Cost(lone(api.Market{Fare: 7}), true, []int{-1})
	is(t, "P8.1: Cost of nothing", n, e, 0)
	n, e = grain.Cost(lone(api.Market{Fare: 7, Price: 2, Need: span(0, 1)}), true, []int{0})
	is(t, "P8.1: Cost of the most", n, e, 9)
	n, e = grain.Cost(alike(6, 1, 60, api.Market{Price: 2, Fare: 10, Need: span(1, 1)}), true, []int{0, 1, 0, 1, 0, 1})
	is(t, "P8.1: Cost of days in turns", n, e, 20+12+2+4+2+4)
}

func TestErrorsOfCost(t *testing.T) {
	shut := altered(func(b *api.Barn) { b.Days[2].Closed = true })
	for _, bought := range [][]int{
		nil, {}, {0, 0, -1}, {0, 0, -1, 2, 2}, {0, 0, -1, 2, -1}, {0, 0, 2, 2}, {0, 0, 0, 2}, {0, 0, -2, 2}, {0, -1, -1, 2}, {-1, -1, -1, -1},
		{1, 1, -1, 2}, {0, 2, -1, 2}, {0, 0, -1, 0}, {0, 0, -1, 4}, {0, 0, math.MinInt, 2}, {0, 0, -1, math.MaxInt}, {math.MinInt, 0, -1, 2}, {0, 0, math.MaxInt, 2},
	} {
		n, e := grain.Cost(example(), false, bought)
		if e != api.ErrArg || n != 0 {
			t.Errorf("P8.1: Cost of %v: %d, error %d", bought, n, e)
		}
	}
	some := lone(api.Market{Need: span(0, 1)})
	for _, x := range []struct {
		what   string
		b      api.Barn
		most   bool
		bought []int
	}{
		{"what is bought without a market, for the least", shut, false, []int{0, 0, -1, 2}},
		{"what is bought without a market, for the most", shut, true, []int{0, 0, -1, 2}},
		{"what is bought for the most, of the least", some, false, []int{0}},
		{"what is bought for the least, of the most", some, true, []int{-1}},
	} {
		for _, c := range named(input{most: x.most, l: api.Lots{Bought: x.bought}}, "Cost") {
			failsAt(t, "P8.1, R4", x.what, c, x.b, api.ErrArg)
		}
	}
}

// TestCostOfAllLists holds Cost against the chapter's words for ways, and for lists that nearly are some.
func TestCostOfAllLists(t *testing.T) {
	d := dice(1)
	kinds := map[bool]int{}
	for range 1500 {
		b, most := d.rolled(1+d.roll(5)), d.roll(2) == 0
		all := ways(b, most)
		for range min(10, len(all)) {
			w := slices.Clone(all[d.roll(len(all))])
			if d.roll(2) == 0 {
				w[d.roll(len(w))] += d.roll(3) - 1
			}
			n, e := grain.Cost(b, most, w)
			kinds[isWay(b, most, w)]++
			if !isWay(b, most, w) {
				fails(t, "P8.1: Cost of no way", e, api.ErrArg)
			} else if is(t, "P8.1: Cost", n, e, costOf(b, most, w)); t.Failed() {
				t.Fatal(w, b)
			}
		}
	}
	if kinds[true] < 1000 || kinds[false] < 1000 {
		t.Error("the lists are too much alike:", kinds)
	}
}

func TestCloseAndNeed(t *testing.T) {
	for _, b := range barns() {
		for day := range b.Days {
			c, e := grain.Close(b, day)
			want := changed(b, func(b *api.Barn) { b.Days[day].Closed = true })
			if e != api.OK || !reflect.DeepEqual(c, want) {
				t.Errorf("P8.5: Close %d of %v: %v, error %d", day, b, c, e)
			}
			for _, n := range []int{0, 1, 999, 1000} {
				c, e := grain.Need(b, day, n)
				want := changed(b, func(b *api.Barn) { b.Days[day].Need = span(n, n) })
				if e != api.OK || !reflect.DeepEqual(c, want) {
					t.Errorf("P8.5: Need %d of %v: %v, error %d", day, b, c, e)
				}
			}
			for _, n := range strange {
				for _, c := range named(input{day: day, bushels: n}, "Need") {
					failsAt(t, "P8.5, R4", "a number that is none of bushels", c, b, api.ErrArg)
				}
			}
		}
	}
	c, _ := grain.Close(example(), 0)
	l, e := grain.Best(c, false)
	if e != api.ErrNone || !isZero(l) {
		t.Error("P8.5: Best without a market on the first day:", l, e)
	}
}

// spread returns a list behind which, up to its capacity, there is something, and the whole of it.
func spread[T any](l []T, x T) ([]T, []T) {
	all := append(slices.Clone(l), x, x)
	return all[:len(l)], all
}

// inputsOf returns what functions with a barn can be given beside it.
func inputsOf(b api.Barn) []input {
	var all []input
	for _, most := range []bool{false, true} {
		l, _ := grain.Best(b, most)
		for _, day := range []int{0, len(b.Days) / 2, len(b.Days) - 1, -1} {
			all = append(all, input{most, day, 5, l})
		}
	}
	return all
}

func TestArgumentsStayTheSame(t *testing.T) {
	for _, made := range barns() {
		for _, x := range inputsOf(made) {
			b := cloned(made)
			var days []api.Market
			var bought, prices []int
			b.Days, days = spread(b.Days, api.Market{Price: 77})
			x.l.Bought, bought = spread(x.l.Bought, 99)
			x.l.Prices, prices = spread(x.l.Prices, 99)
			daysBefore, boughtBefore, pricesBefore := slices.Clone(days), slices.Clone(bought), slices.Clone(prices)
			for _, c := range calls(x) {
				c.do(b)
				if !slices.Equal(days, daysBefore) || !slices.Equal(bought, boughtBefore) || !slices.Equal(prices, pricesBefore) {
					t.Fatalf("R6: %s: the barn is %v, and the lots %v, %v", c.name, days, bought, prices)
				}
			}
		}
	}
}

// spoil changes all that is in the lists of a result.
func spoil(v reflect.Value) {
	switch v.Kind() {
	case reflect.Slice:
		for i := range v.Len() {
			spoil(v.Index(i))
		}
	case reflect.Struct:
		for i := range v.NumField() {
			spoil(v.Field(i))
		}
	case reflect.Int:
		if v.CanSet() {
			v.SetInt(v.Int() - 1000)
		}
	}
}

func TestResultsAreNew(t *testing.T) {
	for _, b := range barns() {
		for _, x := range inputsOf(b) {
			for _, c := range calls(x) {
				whole := cloned(b)
				lots := api.Lots{Bought: slices.Clone(x.l.Bought), Cost: x.l.Cost, Prices: slices.Clone(x.l.Prices)}
				first, e := c.do(b)
				for _, y := range first {
					spoil(reflect.ValueOf(y))
				}
				if !reflect.DeepEqual(b, whole) || !slices.Equal(x.l.Bought, lots.Bought) || !slices.Equal(x.l.Prices, lots.Prices) {
					t.Fatalf("R6: %s shares memory with %v, or %v", c.name, b, x.l)
				}
				second, f := c.do(b)
				third, g := c.do(whole)
				if e != f || f != g || !reflect.DeepEqual(second, third) {
					t.Fatalf("R7: %s: %v, and %v of the same, errors %d, %d and %d", c.name, second, third, e, f, g)
				}
			}
		}
	}
}

func TestListsOfResultsAreTheirOwn(t *testing.T) {
	for _, b := range barns() {
		l, e := grain.Best(b, true)
		if e == api.OK && &l.Bought[0] == &l.Prices[0] {
			t.Error("R6: Bought and Prices share memory:", l)
		}
	}
}
