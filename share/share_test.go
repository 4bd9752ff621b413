package share_test

import (
	"math"
	"reflect"
	"slices"
	"testing"

	"potence/api"
	"potence/share"
)

// example returns the loft of the chapter's examples.
func example() api.Loft {
	return api.Loft{Perches: []api.Perch{
		{ID: 1, Above: -1, Least: 0, Most: 6},
		{ID: 2, Above: 0, Least: 1, Most: 3},
		{ID: 3, Above: 0, Least: 0, Most: 4},
		{ID: 4, Above: 1, Least: 0, Most: 2, Worths: []int{9, 4}},
		{ID: 5, Above: 1, Least: 0, Most: 3, Worths: []int{7, 7, 1}},
		{ID: 6, Above: 2, Least: 1, Most: 2, Worths: []int{8, -2}},
		{ID: 7, Above: 2, Least: 0, Most: 3, Worths: []int{6, 5, 5}},
	}}
}

// changed returns the loft of the examples with a change.
func changed(change func(p []api.Perch)) api.Loft {
	l := example()
	change(l.Perches)
	return l
}

// broken returns the loft of the examples with holes of which there are more birds to be taken than they have.
func broken() api.Loft {
	return changed(func(p []api.Perch) { p[4].Least, p[4].Most = 4, 4; p[5].Least, p[5].Most = 3, 500 })
}

// lone returns a loft of one hole.
func lone(least, most int, worths ...int) api.Loft {
	return api.Loft{Perches: []api.Perch{{ID: 7, Above: -1, Least: least, Most: most, Worths: worths}}}
}

// great returns as many perches as there may be, all others in the first one, or each one in the one before it; all holes are the same, with as many birds as they may have.
func great(deep bool) api.Loft {
	l := api.Loft{Perches: []api.Perch{{ID: api.MaxID, Above: -1, Most: 500}}}
	for i := 1; i < 40; i++ {
		p := api.Perch{ID: api.MaxID - i, Most: 500}
		if deep {
			p.Above = i - 1
		}
		if !deep || i == 39 {
			p.Worths = []int{1000, 1000, 9, 8, 7, 6, 6, 6, 0, -1, -999, -1000}
		}
		l.Perches = append(l.Perches, p)
	}
	return l
}

// lofts returns some lofts that have no errors; the last one has no taking.
func lofts() []api.Loft {
	return []api.Loft{lone(0, 0), lone(0, 500), lone(1, 3, 5, 5, 2, 1), example(), great(false), great(true), broken()}
}

// fails reports a promise whose error is not the one that is wanted.
func fails(t *testing.T, what string, got, want api.Errno) {
	t.Helper()
	if got != want {
		t.Errorf("%s: got error %d, want %d", what, got, want)
	}
}

// is reports a promise whose result is not the one that is wanted.
func is[T comparable](t *testing.T, what string, got T, e api.Errno, want T) {
	t.Helper()
	if e != api.OK || got != want {
		t.Errorf("%s: got %v, error %d, want %v", what, got, e, want)
	}
}

// same reports a promise whose list is not the one that is wanted.
func same[T comparable](t *testing.T, what string, got []T, e api.Errno, want ...T) {
	t.Helper()
	if e != api.OK || !slices.Equal(got, want) {
		t.Errorf("%s: got %v, error %d, want %v", what, got, e, want)
	}
}

// span returns a span.
func span(lo, hi int) api.Span { return api.Span{Lo: lo, Hi: hi} }

// wrong is a loft that is not right, and its first error.
type wrong struct {
	what string
	l    api.Loft
	e    api.Errno
}

// wrongFields returns lofts in which a perch is wrong.
func wrongFields() []wrong {
	var all []wrong
	bad := func(what string, change func(p []api.Perch)) {
		all = append(all, wrong{what, changed(change), api.ErrArg})
	}
	for i := range 7 {
		for _, n := range []int{0, -1, api.MaxID + 1, math.MinInt, math.MaxInt} {
			bad("ID", func(p []api.Perch) { p[i].ID = n })
		}
		for _, n := range []int{-2, i, i + 1, 7, math.MinInt, math.MaxInt} {
			bad("above", func(p []api.Perch) { p[i].Above = n })
		}
		for _, n := range []int{-1, math.MinInt, 501, math.MaxInt} {
			bad("least", func(p []api.Perch) { p[i].Least = n })
			bad("most", func(p []api.Perch) { p[i].Most = n })
			bad("least and most", func(p []api.Perch) { p[i].Least, p[i].Most = n, n })
		}
		bad("least above most", func(p []api.Perch) { p[i].Least, p[i].Most = 3, 2 })
		bad("a worth", func(p []api.Perch) { p[i].Worths = []int{1001} })
		bad("another worth", func(p []api.Perch) { p[i].Worths = []int{5, 5, -1001} })
		bad("13 worths", func(p []api.Perch) { p[i].Worths = make([]int, 13) })
		bad("many worths", func(p []api.Perch) { p[i].Worths = slices.Repeat([]int{1000}, 300) })
		bad("worths that rise", func(p []api.Perch) { p[i].Worths = []int{3, 2, 3} })
		bad("worths that rise first", func(p []api.Perch) { p[i].Worths = []int{-2, -1} })
		bad("worths that are too great", func(p []api.Perch) { p[i].Worths = []int{math.MaxInt, math.MinInt} })
	}
	bad("the first one in one", func(p []api.Perch) { p[0].Above = 0 })
	for i := range 6 {
		bad("in none", func(p []api.Perch) { p[i+1].Above = -1 })
	}
	for i := range 3 {
		bad("worths of what is no hole", func(p []api.Perch) { p[i].Worths = []int{1} })
	}
	return all
}

// wrongLofts returns lofts that are not right.
func wrongLofts() []wrong {
	twice := changed(func(p []api.Perch) { p[6].ID = 1 })
	many := great(false)
	many.Perches = append(many.Perches, api.Perch{ID: 1})
	return append(wrongFields(),
		wrong{"no perches", api.Loft{}, api.ErrArg},
		wrong{"no perches, but a list", api.Loft{Perches: []api.Perch{}}, api.ErrArg},
		wrong{"41 perches", many, api.ErrLimit},
		wrong{"41 perches that are none", api.Loft{Perches: make([]api.Perch, 41)}, api.ErrLimit},
		wrong{"40 perches that are none", api.Loft{Perches: make([]api.Perch, 40)}, api.ErrArg},
		wrong{"an ID twice", twice, api.ErrTwice},
		wrong{"an ID twice in a row", changed(func(p []api.Perch) { p[1].ID = 1 }), api.ErrTwice},
		wrong{"an ID twice, and no Most", changed(func(p []api.Perch) { p[6].ID, p[6].Most = 1, -1 }), api.ErrArg},
		wrong{"an ID twice, and worths that rise", changed(func(p []api.Perch) { p[6].ID, p[6].Worths = 1, []int{1, 2} }), api.ErrArg},
		wrong{"an ID twice, then no Most", changed(func(p []api.Perch) { p[5].ID, p[6].Most = 1, -1 }), api.ErrTwice},
		wrong{"no Most, then an ID twice", changed(func(p []api.Perch) { p[5].Most, p[6].ID = -1, 1 }), api.ErrArg},
		wrong{"an ID twice, then one in none", changed(func(p []api.Perch) { p[2].ID, p[3].Above = 2, -1 }), api.ErrTwice})
}

// rightLofts returns lofts at the limits of what is right.
func rightLofts() []api.Loft {
	return append(lofts(),
		lone(500, 500, 1000), lone(0, 500, slices.Repeat([]int{-1000}, 12)...), lone(0, 0, slices.Repeat([]int{1000}, 12)...),
		lone(0, 1, 1000, -1000), lone(0, 1, []int{}...),
		changed(func(p []api.Perch) { p[0].Least = 6; p[1].Most = 500; p[3].Worths = nil }),
		changed(func(p []api.Perch) { p[6].ID = api.MaxID; p[5].Above = 1; p[6].Above = 1 }))
}

func TestCheck(t *testing.T) {
	for i, l := range rightLofts() {
		if e := share.Check(l); e != api.OK {
			t.Errorf("P7.1: the right loft %d: error %d", i, e)
		}
	}
	for _, x := range wrongLofts() {
		fails(t, "P7.1: "+x.what, share.Check(x.l), x.e)
	}
}

// call is a function with a loft: its results but for the error.
type call struct {
	name string
	do   func(l api.Loft) ([]any, api.Errno)
}

// one and two return the results of a function in one list.
func one[T any](x T, e api.Errno) ([]any, api.Errno) { return []any{x}, e }

func two[T, U any](x T, y U, e api.Errno) ([]any, api.Errno) { return []any{x, y}, e }

// input is what the functions are given beside a loft.
type input struct {
	birds, perch int
	s            api.Span
	t            api.Taken
}

// calls returns all functions with a loft.
func calls(x input) []call {
	return []call{
		{"Check", func(l api.Loft) ([]any, api.Errno) { return nil, share.Check(l) }},
		{"Limits", func(l api.Loft) ([]any, api.Errno) { return one(share.Limits(l, x.perch)) }},
		{"Clash", func(l api.Loft) ([]any, api.Errno) { return two(share.Clash(l)) }},
		{"Range", func(l api.Loft) ([]any, api.Errno) { return one(share.Range(l)) }},
		{"Worth", func(l api.Loft) ([]any, api.Errno) { return one(share.Worth(l, x.t.Given)) }},
		{"Worths", func(l api.Loft) ([]any, api.Errno) { return one(share.Worths(l)) }},
		{"Best", func(l api.Loft) ([]any, api.Errno) { return one(share.Best(l, x.birds)) }},
		{"CheckBest", func(l api.Loft) ([]any, api.Errno) { return nil, share.CheckBest(l, x.t) }},
		{"Further", func(l api.Loft) ([]any, api.Errno) { return one(share.Further(l, x.birds)) }},
		{"Peak", func(l api.Loft) ([]any, api.Errno) { return two(share.Peak(l)) }},
		{"Ends", func(l api.Loft) ([]any, api.Errno) { return one(share.Ends(l, x.birds, x.perch)) }},
		{"Gives", func(l api.Loft) ([]any, api.Errno) { return two(share.Gives(l, x.birds)) }},
		{"Add", func(l api.Loft) ([]any, api.Errno) { return two(share.Add(l, x.t)) }},
		{"Drop", func(l api.Loft) ([]any, api.Errno) { return two(share.Drop(l, x.t)) }},
		{"Cap", func(l api.Loft) ([]any, api.Errno) { return one(share.Cap(l, x.birds, x.perch)) }},
		{"Floor", func(l api.Loft) ([]any, api.Errno) { return one(share.Floor(l, x.birds, x.perch)) }},
		{"With", func(l api.Loft) ([]any, api.Errno) { return one(share.With(l, x.perch, x.s)) }},
		{"Without", func(l api.Loft) ([]any, api.Errno) { return one(share.Without(l, x.perch)) }},
	}
}

// named returns those of all functions that have one of some names.
func named(x input, names ...string) []call {
	return slices.DeleteFunc(calls(x), func(c call) bool { return !slices.Contains(names, c.name) })
}

// isZero says whether a result is a zero value, or an empty list.
func isZero(x any) bool {
	v := reflect.ValueOf(x)
	return v.IsZero() || v.Kind() == reflect.Slice && v.Len() == 0
}

// failsAt reports a function that does not return just an error.
func failsAt(t *testing.T, promise, what string, c call, l api.Loft, want api.Errno) {
	t.Helper()
	got, e := c.do(l)
	if e != want || slices.ContainsFunc(got, func(x any) bool { return !isZero(x) }) {
		t.Errorf("%s: %s of %s: %v, error %d, want %d", promise, c.name, what, got, e, want)
	}
}

// proved returns a best taking of the loft of the examples, with prices that prove it.
func proved() api.Taken {
	return api.Taken{Given: []int{4, 3, 1, 1, 2, 1, 0}, Worth: 31, Prices: []int{6, 6, 6, 6, 6, 6, 6}}
}

// strange are numbers that are neither those of birds nor IDs.
var strange = []int{-1, 501, math.MinInt, math.MaxInt}

func TestFirstErrors(t *testing.T) {
	inputs := []input{{4, 5, span(0, 2), proved()}, {0, 99, span(2, 0), api.Taken{}}}
	for _, n := range strange {
		inputs = append(inputs, input{n, n, span(n, n), api.Taken{Given: []int{n}}})
	}
	for _, x := range wrongLofts() {
		for _, in := range inputs {
			for _, c := range calls(in) {
				failsAt(t, "P7.1, R3, R4", x.what, c, x.l, x.e)
			}
		}
	}
}

func TestErrorsOfPerches(t *testing.T) {
	for _, perch := range append(strange, 0, 8, api.MaxID+1) {
		for _, birds := range append(strange, 4) {
			in := input{birds, perch, span(3, birds), proved()}
			for _, c := range named(in, "Limits", "Ends", "Cap", "Floor", "With", "Without") {
				failsAt(t, "R3, R4", "a perch that there is not", c, example(), api.ErrNone)
				failsAt(t, "R3, R4", "a perch that there is not, without takings", c, broken(), api.ErrNone)
				failsAt(t, "R3, R4", "a perch that there is not, of 40", c, great(true), api.ErrNone)
			}
		}
	}
}

func TestErrorsWithoutTakings(t *testing.T) {
	for _, l := range []api.Loft{broken(), lone(2, 3, 5), lone(1, 1),
		changed(func(p []api.Perch) { p[0].Least, p[0].Most = 8, 500 }),
		changed(func(p []api.Perch) { p[0].Most = 1 }),
		changed(func(p []api.Perch) { p[2].Least, p[2].Most = 6, 9 })} {
		for _, birds := range append(strange, 0, 1, 4) {
			in := input{birds, 7, span(0, 1), api.Taken{Given: make([]int, len(l.Perches)), Prices: make([]int, len(l.Perches))}}
			if len(l.Perches) > 1 {
				in.t = proved()
			}
			for _, c := range named(in, "Range", "Worths", "Best", "Further", "Peak", "Ends", "Gives", "Cap", "Floor") {
				failsAt(t, "P7.2, R3, R4", "a loft without takings", c, l, api.ErrClash)
			}
			for _, c := range named(in, "CheckBest", "Add", "Drop") {
				failsAt(t, "P7.4, P7.7, R4", "a loft without takings", c, l, api.ErrProof)
			}
			for _, c := range named(in, "Worth") {
				failsAt(t, "P7.3, R4", "a loft without takings", c, l, api.ErrArg)
			}
		}
	}
}

func TestErrorsOfBirds(t *testing.T) {
	loose := changed(func(p []api.Perch) { p[6].Most = 500 }) // Cap and Floor have errors of their own for it
	for _, birds := range append(strange, 0, 1, 7, 500) {
		for _, perch := range []int{1, 2, 4, 7} {
			for _, c := range named(input{birds: birds, perch: perch}, "Best", "Further", "Ends", "Gives", "Cap", "Floor") {
				failsAt(t, "R3, R4", "a number of birds that there is not", c, example(), api.ErrArg)
				failsAt(t, "R3, R4", "a number of birds that there is not", c, loose, api.ErrArg)
			}
		}
	}
}

func TestLimits(t *testing.T) {
	for id, want := range map[int]api.Span{1: span(2, 6), 2: span(1, 3), 3: span(1, 4), 4: span(0, 2), 5: span(0, 3), 6: span(1, 2), 7: span(0, 3)} {
		s, e := share.Limits(example(), id)
		is(t, "P7.2: Limits", s, e, want)
	}
	for _, x := range []struct {
		l    api.Loft
		want api.Span
	}{
		{lone(0, 0), span(0, 0)}, {lone(0, 500), span(0, 0)}, {lone(1, 3, 5, 5, 2, 1), span(1, 3)}, {lone(0, 500, 1, 1), span(0, 2)},
		{lone(2, 2, 1, 1), span(2, 2)}, {lone(0, 0, 1), span(0, 0)},
		{changed(func(p []api.Perch) { p[6].ID = 8; p[1].ID = 7; p[1].Most = 500 }), span(1, 5)},
		{changed(func(p []api.Perch) { p[6].ID = 8; p[2].ID = 7; p[2].Most = 500 }), span(1, 5)},
		{changed(func(p []api.Perch) { p[6].ID = 8; p[0].ID = 7; p[0].Most = 500 }), span(2, 7)},
	} {
		s, e := share.Limits(x.l, 7)
		is(t, "P7.2: Limits", s, e, x.want)
	}
	s, e := share.Limits(great(false), api.MaxID)
	is(t, "P7.2: Limits of 39 holes", s, e, span(0, 468))
	s, e = share.Limits(great(true), api.MaxID)
	is(t, "P7.2: Limits of a perch in a perch in a perch", s, e, span(0, 12))
	for id, want := range map[int]api.Errno{1: api.ErrClash, 2: api.ErrClash, 3: api.ErrClash, 4: api.OK, 5: api.ErrClash, 6: api.ErrClash, 7: api.OK} {
		if s, e := share.Limits(broken(), id); e != want || e != api.OK && s != span(0, 0) {
			t.Errorf("P7.2: Limits of %d, with perches that can give nothing: %v, error %d, want %d", id, s, e, want)
		}
	}
}

func TestClash(t *testing.T) {
	for i, x := range []struct {
		l    api.Loft
		want int
	}{
		{broken(), 6},
		{changed(func(p []api.Perch) { p[4].Least, p[4].Most = 4, 4 }), 5},
		{changed(func(p []api.Perch) { p[3].Least, p[3].Most = 3, 4; p[2].Least, p[2].Most = 6, 6 }), 4},
		{changed(func(p []api.Perch) { p[1].Least, p[1].Most = 6, 500; p[2].Most = 0 }), 3},
		{changed(func(p []api.Perch) { p[1].Least, p[1].Most = 6, 500 }), 2},
		{changed(func(p []api.Perch) { p[0].Least, p[0].Most = 8, 8 }), 1},
		{changed(func(p []api.Perch) { p[0].Most = 1 }), 1},
		{lone(1, 1), 7},
		{lone(3, 500, 1, 1), 7},
	} {
		if id, has, e := share.Clash(x.l); e != api.OK || !has || id != x.want {
			t.Errorf("P7.2: Clash %d: %d, %v, error %d, want %d", i, id, has, e, x.want)
		}
	}
	for i, l := range lofts()[:6] {
		if id, has, e := share.Clash(l); e != api.OK || has || id != 0 {
			t.Errorf("P7.2: Clash of the loft %d with takings: %d, %v, error %d", i, id, has, e)
		}
	}
}

// TestLimitsOfAllLofts holds Limits, Clash and Range against a listing of all that perches can give.
func TestLimitsOfAllLofts(t *testing.T) {
	d := dice(1)
	kinds := map[int]int{}
	for range 2500 {
		l := d.rolled()
		clash := 0
		for at, p := range l.Perches {
			lists := byItself(l, at)
			s, e := share.Limits(l, p.ID)
			if len(lists) == 0 {
				fails(t, "P7.2: Limits of what can give nothing", e, api.ErrClash)
				clash = p.ID // A perch within it would have to stand behind it.
				continue
			}
			is(t, "P7.2: Limits", s, e, spanOf(lists, at))
			for n := s.Lo; n <= s.Hi; n++ {
				if !slices.ContainsFunc(lists, func(g []int) bool { return g[at] == n }) {
					t.Fatalf("P7.2: %d of %v can not give %d of %v", p.ID, l, n, s)
				}
			}
		}
		id, has, e := share.Clash(l)
		if e != api.OK || id != clash || has != (clash > 0) || has != (len(takings(l)) == 0) {
			t.Fatalf("P7.2: Clash of %v: %d, %v, error %d, want %d", l, id, has, e, clash)
		}
		s, e := share.Range(l)
		if has {
			fails(t, "P7.2: Range", e, api.ErrClash)
		} else {
			is(t, "P7.2: Range", s, e, spanOf(takings(l), 0))
		}
		kinds[len(l.Perches)]++
		if has {
			kinds[-1]++
		}
	}
	if kinds[-1] < 100 || kinds[-1] > 500 || kinds[1] < 20 || kinds[8] < 100 {
		t.Error("the lofts are too much alike:", kinds)
	}
}

func TestWithin(t *testing.T) {
	d := dice(2)
	for range 500 {
		l := d.rolled()
		for at, p := range l.Perches {
			s, e := share.Limits(l, p.ID)
			for _, g := range takings(l) {
				if e != api.OK || g[at] < s.Lo || g[at] > s.Hi {
					t.Fatalf("P7.16: %d gives %d in the taking %v of %v, which is not within %v", p.ID, g[at], g, l, s)
				}
			}
		}
	}
}

func TestRange(t *testing.T) {
	s, e := share.Range(example())
	is(t, "P7.2: Range of the examples", s, e, span(2, 6))
	s, e = share.Range(lone(0, 500))
	is(t, "P7.2: Range of no birds", s, e, span(0, 0))
	s, e = share.Range(great(false))
	is(t, "P7.2: Range of 39 holes", s, e, span(0, 468))
}

func TestWorth(t *testing.T) {
	for _, x := range []struct {
		given []int
		want  int
	}{
		{[]int{2, 1, 1, 1, 0, 1, 0}, 17}, {[]int{2, 1, 1, 0, 1, 1, 0}, 15}, {[]int{6, 3, 3, 1, 2, 2, 1}, 35},
		{[]int{6, 3, 3, 0, 3, 1, 2}, 34}, {[]int{6, 2, 4, 2, 0, 1, 3}, 37}, {[]int{3, 1, 2, 1, 0, 2, 0}, 15}, {[]int{6, 3, 3, 1, 2, 1, 2}, 42},
	} {
		w, e := share.Worth(example(), x.given)
		is(t, "P7.3: Worth", w, e, x.want)
	}
	w, e := share.Worth(lone(0, 3, -1, -1, -1000), []int{3})
	is(t, "P7.3: Worth of birds that cost", w, e, -1002)
	w, e = share.Worth(lone(0, 3), []int{0})
	is(t, "P7.3: Worth of no birds", w, e, 0)
	for _, given := range [][]int{
		nil, {}, {4}, {4, 3, 1, 1, 2, 1}, {4, 3, 1, 1, 2, 1, 0, 0},
		{5, 3, 1, 1, 2, 1, 0}, {3, 3, 1, 1, 2, 1, 0}, // the house is no sum
		{5, 4, 1, 2, 2, 1, 0}, {2, 0, 2, 0, 0, 1, 1}, // a ring
		{5, 3, 2, 1, 2, 1, 0}, {4, 3, 1, 1, 1, 1, 0},
		{3, 3, 0, 1, 2, 0, 0}, {7, 3, 4, 1, 2, 1, 3},
		{3, 2, 1, -1, 3, 1, 0}, {5, 3, 2, 3, 0, 1, 1},
		{math.MaxInt, 3, 1, 1, 2, 1, 0}, {4, 3, 1, math.MinInt, 2, 1, 0}, {math.MinInt, math.MinInt, 0, math.MaxInt, 1, 1, -1},
	} {
		w, e := share.Worth(example(), given)
		if e != api.ErrArg || w != 0 {
			t.Errorf("P7.3: Worth of %v: %d, error %d", given, w, e)
		}
	}
	w, e = share.Worth(lone(0, 3, 5), []int{2})
	if e != api.ErrArg || w != 0 {
		t.Errorf("P7.3: more birds than Worths: %d, error %d", w, e)
	}
}

// TestWorthOfAllLists holds Worth against the chapter's words for takings, and for lists that nearly are some.
func TestWorthOfAllLists(t *testing.T) {
	d := dice(3)
	for range 600 {
		l := d.rolled()
		all := takings(l)
		for range min(20, len(all)) {
			g := slices.Clone(all[d.roll(len(all))])
			if d.roll(3) == 0 {
				g[d.roll(len(g))] += d.roll(3) - 1
			}
			w, e := share.Worth(l, g)
			if !isTaking(l, g) {
				fails(t, "P7.3: Worth of no taking", e, api.ErrArg)
			} else if is(t, "P7.3: Worth", w, e, worthOf(l, g)); t.Failed() {
				t.Fatal(g, l)
			}
		}
	}
}
