package nest_test

import (
	"math"
	"reflect"
	"slices"
	"testing"

	"potence/api"
	"potence/nest"
)

// any9 is the span of a number of which nothing is told.
var any9 = api.Span{Lo: 0, Hi: 9}

// peep returns a look that tells one number.
func peep(id, day, what, lo, hi int) api.Peep {
	p := api.Peep{ID: id, Day: day, Numbers: [3]api.Span{any9, any9, any9}}
	p.Numbers[what] = api.Span{Lo: lo, Hi: hi}
	return p
}

// example returns the nest of the chapter's examples, with the first ones of what is told.
func example(told int) api.Nest {
	n := api.Nest{
		Breed: api.Breed{
			Phases: []api.Phase{
				{Old: 2, Least: 2},
				{Eggs: 1, Old: 2, Least: 2, Most: 2},
				{Eggs: 2, Old: 2, Least: 3, Most: 4},
				{Squabs: 2, Old: 2, Least: 4, Most: 6},
			},
			Changes: []api.Change{{From: 0, To: 1}, {From: 1, To: 2}, {From: 2, To: 3}, {From: 3, To: 0, Taken: true}},
		},
		Last: 12,
	}
	if told > 0 {
		n.Peeps = append(n.Peeps, peep(11, 3, api.NsEggs, 1, 2))
	}
	if told > 1 {
		n.Peeps = append(n.Peeps, peep(12, 9, api.NsSquabs, 1, 9))
	}
	if told > 2 {
		n.Takings = append(n.Takings, api.Taking{ID: 13, Day: 11})
	}
	if told > 3 {
		n.Peeps = append(n.Peeps, peep(14, 5, api.NsEggs, 0, 0))
	}
	return n
}

// full returns a nest with as much of everything as there may be.
func full() api.Nest {
	n := api.Nest{Last: 120}
	for i := range 8 {
		n.Breed.Phases = append(n.Breed.Phases, api.Phase{Eggs: 9, Squabs: i, Old: 9, Least: 60, Most: 60 * (i % 2)})
	}
	for from := range 8 {
		for to := range 8 {
			if from != to && len(n.Breed.Changes) < 20 {
				n.Breed.Changes = append(n.Breed.Changes, api.Change{From: from, To: to, Taken: to%2 == 1})
			}
		}
	}
	for i := range 30 {
		n.Peeps = append(n.Peeps, peep(api.MaxID-i, 120, i%3, 0, 9))
	}
	for i := range 12 {
		n.Takings = append(n.Takings, api.Taking{ID: i + 1, Day: 120 - i})
	}
	return n
}

// fails reports a promise whose error is not the one that is wanted.
func fails(t *testing.T, what string, got, want api.Errno) {
	t.Helper()
	if got != want {
		t.Errorf("%s: got error %d, want %d", what, got, want)
	}
}

// changed returns the nest of the examples, without a contradiction, with a change.
func changed(change func(n *api.Nest)) api.Nest {
	n := example(3)
	change(&n)
	return n
}

// wrong is a nest that is not right, and its first error.
type wrong struct {
	what string
	n    api.Nest
	e    api.Errno
}

// wrongBreeds returns nests whose breeds are not right.
func wrongBreeds() []wrong {
	all := []wrong{
		{"nothing", api.Nest{}, api.ErrArg},
		{"no phase", changed(func(n *api.Nest) { n.Breed.Phases = nil }), api.ErrArg},
		{"no phase, and no change", changed(func(n *api.Nest) { n.Breed = api.Breed{} }), api.ErrArg},
		{"9 phases", changed(func(n *api.Nest) { n.Breed.Phases = slices.Repeat(n.Breed.Phases[:1], 9) }), api.ErrLimit},
		{"9 phases that are none", changed(func(n *api.Nest) { n.Breed.Phases = make([]api.Phase, 9) }), api.ErrLimit},
		{"8 phases that are none", changed(func(n *api.Nest) { n.Breed.Phases = make([]api.Phase, 8) }), api.ErrArg},
		{"21 changes", changed(func(n *api.Nest) { n.Breed.Changes = append(full().Breed.Changes, api.Change{From: 7, To: 6}) }), api.ErrLimit},
		{"21 changes, and no phase", changed(func(n *api.Nest) { n.Breed = api.Breed{Changes: make([]api.Change, 21)} }), api.ErrLimit},
		{"20 changes, and no phase", changed(func(n *api.Nest) { n.Breed = api.Breed{Changes: make([]api.Change, 20)} }), api.ErrArg},
		{"twice the same change", changed(func(n *api.Nest) { n.Breed.Changes[3] = n.Breed.Changes[0] }), api.ErrArg},
		{"twice the same change, once Taken", changed(func(n *api.Nest) { n.Breed.Changes[2] = api.Change{From: 0, To: 1, Taken: true} }), api.ErrArg},
		{"to itself", changed(func(n *api.Nest) { n.Breed.Changes[1].To = 1 }), api.ErrArg},
		{"to itself, Taken", changed(func(n *api.Nest) { n.Breed.Changes[3].To = 3 }), api.ErrArg},
	}
	for _, x := range []int{-1, 10, math.MinInt, math.MaxInt} {
		all = append(all,
			wrong{"eggs", changed(func(n *api.Nest) { n.Breed.Phases[0].Eggs = x }), api.ErrArg},
			wrong{"squabs", changed(func(n *api.Nest) { n.Breed.Phases[3].Squabs = x }), api.ErrArg},
			wrong{"old birds", changed(func(n *api.Nest) { n.Breed.Phases[1].Old = x }), api.ErrArg})
	}
	for _, x := range []int{0, -1, 61, math.MinInt, math.MaxInt} {
		all = append(all,
			wrong{"least", changed(func(n *api.Nest) { n.Breed.Phases[0].Least = x }), api.ErrArg},
			wrong{"least of what has a most", changed(func(n *api.Nest) { n.Breed.Phases[3].Least = x }), api.ErrArg})
	}
	for _, x := range []int{-1, 1, 2, 61, math.MinInt, math.MaxInt} {
		all = append(all, wrong{"most", changed(func(n *api.Nest) { n.Breed.Phases[2].Most = x }), api.ErrArg})
	}
	for _, x := range []int{-1, 4, math.MinInt, math.MaxInt} {
		all = append(all,
			wrong{"from", changed(func(n *api.Nest) { n.Breed.Changes[0].From = x }), api.ErrArg},
			wrong{"to", changed(func(n *api.Nest) { n.Breed.Changes[3].To = x }), api.ErrArg})
	}
	return all
}

// wrongTold returns nests in which what is told is not right.
func wrongTold() []wrong {
	all := []wrong{
		{"31 looks", changed(func(n *api.Nest) { n.Peeps = slices.Repeat(n.Peeps[:1], 31) }), api.ErrLimit},
		{"31 looks that are none", changed(func(n *api.Nest) { n.Peeps = make([]api.Peep, 31) }), api.ErrLimit},
		{"13 takings", changed(func(n *api.Nest) { n.Takings = slices.Repeat(n.Takings, 13) }), api.ErrLimit},
		{"13 takings, and looks that are none", changed(func(n *api.Nest) { n.Takings, n.Peeps[0].ID = make([]api.Taking, 13), 0 }), api.ErrLimit},
		{"31 looks, and no last day", changed(func(n *api.Nest) { n.Last, n.Peeps = -1, make([]api.Peep, 31) }), api.ErrArg},
		{"31 looks, and a wrong change", changed(func(n *api.Nest) { n.Breed.Changes[3].To, n.Peeps = 3, make([]api.Peep, 31) }), api.ErrArg},
		{"9 phases, and no last day", changed(func(n *api.Nest) { n.Last, n.Breed.Phases = -1, make([]api.Phase, 9) }), api.ErrLimit},
		{"two looks with an ID", changed(func(n *api.Nest) { n.Peeps[1].ID = 11 }), api.ErrTwice},
		{"a look and a taking with an ID", changed(func(n *api.Nest) { n.Takings[0].ID = 12 }), api.ErrTwice},
		{"two takings with an ID", changed(func(n *api.Nest) { n.Takings = append(n.Takings, api.Taking{ID: 13, Day: 1}) }), api.ErrTwice},
		{"two takings on a day", changed(func(n *api.Nest) { n.Takings = append(n.Takings, api.Taking{ID: 15, Day: 11}) }), api.ErrTwice},
		{"an ID twice, then no ID", changed(func(n *api.Nest) { n.Peeps[1].ID, n.Takings[0].ID = 11, 0 }), api.ErrTwice},
		{"an ID twice, with no day", changed(func(n *api.Nest) { n.Peeps[1].ID, n.Peeps[1].Day = 11, -1 }), api.ErrArg},
		{"an ID twice, with no span", changed(func(n *api.Nest) { n.Peeps[1].ID, n.Peeps[1].Numbers[2].Hi = 11, 10 }), api.ErrArg},
		{"a taking with an ID twice, and no day", changed(func(n *api.Nest) { n.Takings[0] = api.Taking{ID: 11, Day: 13} }), api.ErrArg},
		{"a taking twice, then no look", changed(func(n *api.Nest) { n.Takings[0].ID, n.Peeps = 12, append(n.Peeps, api.Peep{}) }), api.ErrArg},
		{"a span the other way round", changed(func(n *api.Nest) { n.Peeps[0].Numbers[0] = api.Span{Lo: 2, Hi: 1} }), api.ErrArg},
	}
	for _, x := range []int{-1, 121, math.MinInt, math.MaxInt} {
		all = append(all, wrong{"last", changed(func(n *api.Nest) { n.Last = x }), api.ErrArg})
	}
	for _, x := range []int{0, -1, api.MaxID + 1, math.MinInt, math.MaxInt} {
		all = append(all,
			wrong{"ID of a look", changed(func(n *api.Nest) { n.Peeps[1].ID = x }), api.ErrArg},
			wrong{"ID of a taking", changed(func(n *api.Nest) { n.Takings[0].ID = x }), api.ErrArg})
	}
	for _, x := range []int{-1, 13, math.MinInt, math.MaxInt} {
		all = append(all,
			wrong{"day of a look", changed(func(n *api.Nest) { n.Peeps[0].Day = x }), api.ErrArg},
			wrong{"day of a taking", changed(func(n *api.Nest) { n.Takings[0].Day = x }), api.ErrArg})
	}
	for what := range 3 {
		for _, x := range []int{-1, 10, math.MinInt, math.MaxInt} {
			all = append(all,
				wrong{"lo", changed(func(n *api.Nest) { n.Peeps[1].Numbers[what].Lo = x }), api.ErrArg},
				wrong{"hi", changed(func(n *api.Nest) { n.Peeps[1].Numbers[what].Hi = x }), api.ErrArg})
		}
	}
	return all
}

func TestCheck(t *testing.T) {
	for i, n := range []api.Nest{
		example(0), example(1), example(2), example(3), example(4), full(),
		{Breed: api.Breed{Phases: []api.Phase{{Least: 1}}}},
		{Breed: api.Breed{Phases: []api.Phase{{Least: 60, Most: 60}}}, Last: 120},
		changed(func(n *api.Nest) { n.Peeps[0].ID, n.Peeps[1].ID = 1, api.MaxID }),
		changed(func(n *api.Nest) { n.Peeps[0].Day, n.Peeps[1].Day = 12, 0 }),
		changed(func(n *api.Nest) { n.Peeps[0].Day, n.Peeps[1].Day = 5, 5 }),
		changed(func(n *api.Nest) { n.Peeps[0].Day, n.Takings[0].Day = 0, 0 }),
		changed(func(n *api.Nest) { n.Breed.Changes[1] = api.Change{From: 1, To: 0, Taken: true} }),
		changed(func(n *api.Nest) { n.Breed.Phases[1] = n.Breed.Phases[0] }),
	} {
		fails(t, "P4.1: a right breed", nest.CheckBreed(n.Breed), api.OK)
		if e := nest.Check(n); e != api.OK {
			t.Errorf("P4.1: the right nest %d: error %d", i, e)
		}
	}
	for _, x := range wrongBreeds() {
		fails(t, "P4.1: breed: "+x.what, nest.CheckBreed(x.n.Breed), x.e)
		fails(t, "P4.1: nest: "+x.what, nest.Check(x.n), x.e)
	}
	for _, x := range wrongTold() {
		fails(t, "P4.1: "+x.what, nest.Check(x.n), x.e)
	}
}

// call is a function with a nest: its results but for the error.
type call struct {
	name string
	do   func(n api.Nest) ([]any, api.Errno)
}

// one, two and three return the results of a function in one list.
func one[T any](x T, e api.Errno) ([]any, api.Errno) { return []any{x}, e }

func two[T, U any](x T, y U, e api.Errno) ([]any, api.Errno) { return []any{x, y}, e }

func three[T, U, V any](x T, y U, z V, e api.Errno) ([]any, api.Errno) { return []any{x, y, z}, e }

// numbersFor returns the functions with what is counted on a day.
func numbersFor(what, day int) []call {
	return []call{
		{"Asked", func(n api.Nest) ([]any, api.Errno) { return one(nest.Asked(n, what, day, any9)) }},
		{"Ends", func(n api.Nest) ([]any, api.Errno) { return one(nest.Ends(n, what, day)) }},
		{"CheckEnds", func(n api.Nest) ([]any, api.Errno) { return nil, nest.CheckEnds(n, what, day, tooLong()) }},
		{"Rests", func(n api.Nest) ([]any, api.Errno) { return one(nest.Rests(n, what, day)) }},
		{"Would", func(n api.Nest) ([]any, api.Errno) {
			return one(nest.Would(n, peep(99, 0, api.NsEggs, 0, 9), what, day))
		}},
	}
}

// tooLong returns a number that shows more than CheckContradiction allows.
func tooLong() api.Number { return api.Number{Below: make([][]api.Stay, 122)} }

// calls returns all functions with a nest; number is what is counted, the day, the phase and the change.
func calls(number int) []call {
	return append(numbersFor(number, number),
		call{"Check", func(n api.Nest) ([]any, api.Errno) { return nil, nest.Check(n) }},
		call{"Fits", func(n api.Nest) ([]any, api.Errno) { return two(nest.Fits(n, make([]int, 13))) }},
		call{"Find", func(n api.Nest) ([]any, api.Errno) { return one(nest.Find(n)) }},
		call{"Reach", func(n api.Nest) ([]any, api.Errno) { return one(nest.Reach(n)) }},
		call{"Contradiction", func(n api.Nest) ([]any, api.Errno) { return two(nest.Contradiction(n)) }},
		call{"CheckContradiction", func(n api.Nest) ([]any, api.Errno) {
			return nil, nest.CheckContradiction(n, tooLong().Below)
		}},
		call{"Phases", func(n api.Nest) ([]any, api.Errno) { return one(nest.Phases(n, number)) }},
		call{"Days", func(n api.Nest) ([]any, api.Errno) { return two(nest.Days(n, number)) }},
		call{"Times", func(n api.Nest) ([]any, api.Errno) { return three(nest.Times(n, number)) }},
		call{"First", func(n api.Nest) ([]any, api.Errno) { return two(nest.First(n, number)) }},
		call{"Suspects", func(n api.Nest) ([]any, api.Errno) { return one(nest.Suspects(n)) }},
		call{"Core", func(n api.Nest) ([]any, api.Errno) { return one(nest.Core(n)) }},
		call{"Without", func(n api.Nest) ([]any, api.Errno) { return one(nest.Without(n, []int{12})) }})
}

// isZero says whether a result is a zero value, or an empty list.
func isZero(x any) bool {
	v := reflect.ValueOf(x)
	return v.IsZero() || v.Kind() == reflect.Slice && v.Len() == 0
}

// failsAt reports a function that does not return just an error.
func failsAt(t *testing.T, promise, what string, c call, n api.Nest, want api.Errno) {
	t.Helper()
	got, e := c.do(n)
	if e != want || slices.ContainsFunc(got, func(x any) bool { return !isZero(x) }) {
		t.Errorf("%s: %s of %s: %v, error %d, want %d", promise, c.name, what, got, e, want)
	}
}

func TestFirstErrors(t *testing.T) {
	for _, x := range append(wrongBreeds(), wrongTold()...) {
		for _, c := range append(calls(0), calls(-1)...) {
			failsAt(t, "P4.1, R4", x.what, c, x.n, x.e)
		}
		_, e := nest.Would(x.n, api.Peep{}, -1, -1)
		fails(t, "P4.8: "+x.what, e, x.e)
		_, e = nest.Asked(x.n, -1, -1, api.Span{Lo: 1})
		fails(t, "P4.5: "+x.what, e, x.e)
		_, _, e = nest.Fits(x.n, nil)
		fails(t, "P4.2: "+x.what, e, x.e)
	}
}

// named returns those of some functions that have one of some names.
func named(all []call, names ...string) []call {
	return slices.DeleteFunc(all, func(c call) bool { return !slices.Contains(names, c.name) })
}

func TestErrorsOfNumbers(t *testing.T) {
	// Behind the error of the nest, and ahead of all others: there is a contradiction, and 30 looks with the greatest ID.
	most := example(4)
	for i := range 27 {
		most.Peeps = append(most.Peeps, peep(api.MaxID-i, 0, 0, 0, 9))
	}
	fails(t, "P4.1: 30 looks", nest.Check(most), api.OK)
	for _, n := range []api.Nest{example(0), example(4), most} {
		for _, x := range []int{-1, 13, math.MinInt, math.MaxInt} {
			for _, c := range named(calls(x), "Phases", "Days", "Times", "First") {
				failsAt(t, "R3, R4", "a number that is none", c, n, api.ErrArg)
			}
			for _, c := range slices.Concat(numbersFor(0, x), numbersFor(x, 0), numbersFor(x, x)) {
				failsAt(t, "R3, R4", "what is counted, or a day, that is none", c, n, api.ErrArg)
			}
		}
		for _, c := range numbersFor(3, 0) {
			failsAt(t, "R3, R4", "what is not counted", c, n, api.ErrArg)
		}
		_, _, e := nest.Days(n, 4)
		fails(t, "P4.4: no phase", e, api.ErrArg)
		_, _, e = nest.First(n, 4)
		fails(t, "P4.6: no phase", e, api.ErrArg)
		_, _, _, e = nest.Times(n, 4)
		fails(t, "P4.6: no change", e, api.ErrArg)
		_, e = nest.Would(n, api.Peep{}, 0, 13)
		fails(t, "P4.8: no day, and no look", e, api.ErrArg)
		_, e = nest.Asked(n, 3, 0, api.Span{Lo: 1})
		fails(t, "P4.5: not counted, and no span", e, api.ErrArg)
	}
	_, e := nest.Ends(most, 0, 0)
	fails(t, "P4.5: 30 looks, and a contradiction", e, api.ErrLimit)
}

func TestClashes(t *testing.T) {
	for _, c := range named(calls(0), "Find", "Phases", "Days", "Ends", "CheckEnds", "Times", "First", "Rests", "Would") {
		failsAt(t, "R4", "a contradiction", c, example(4), api.ErrClash)
	}
	fails(t, "P4.5: a contradiction, and a number that is none", nest.CheckEnds(example(4), 0, 0, api.Number{Span: api.Span{Lo: 1}}), api.ErrClash)
}

func TestAsked(t *testing.T) {
	told := func(n api.Nest, what, day int, s api.Span, want api.Peep) {
		t.Helper()
		before := example(len(n.Peeps) + len(n.Takings))
		more, e := nest.Asked(n, what, day, s)
		if before.Peeps = append(before.Peeps, want); e != api.OK || !reflect.DeepEqual(more, before) {
			t.Errorf("P4.5: asked for %d on the day %d: %+v, error %d", what, day, more, e)
		}
	}
	told(example(0), api.NsOld, 12, api.Span{Lo: 0, Hi: 0}, peep(1, 12, api.NsOld, 0, 0))
	told(example(1), api.NsEggs, 0, api.Span{Lo: 9, Hi: 9}, peep(12, 0, api.NsEggs, 9, 9))
	told(example(3), api.NsSquabs, 9, any9, peep(14, 9, api.NsSquabs, 0, 9))
	told(example(4), api.NsSquabs, 4, api.Span{Lo: 3, Hi: 7}, peep(15, 4, api.NsSquabs, 3, 7))
	for _, s := range []api.Span{{Lo: 2, Hi: 1}, {Lo: -1, Hi: 1}, {Lo: 1, Hi: 10}, {Lo: math.MinInt, Hi: math.MaxInt}, {Lo: 10, Hi: 10}, {Lo: -1, Hi: -1}} {
		more, e := nest.Asked(example(4), 0, 0, s)
		if e != api.ErrArg || !reflect.DeepEqual(more, api.Nest{}) {
			t.Errorf("P4.5: asked for %v: %+v, error %d", s, more, e)
		}
	}
}

func TestLimitsOfAsked(t *testing.T) {
	many := example(0)
	for i := range 30 {
		if i == 29 {
			_, e := nest.Asked(many, 0, 0, any9)
			fails(t, "P4.5: 29 looks", e, api.OK)
			_, e = nest.Ends(many, 0, 0)
			fails(t, "P4.5: 29 looks", e, api.OK)
		}
		many.Peeps = append(many.Peeps, peep(i+1, 0, 0, 0, 9))
	}
	last := changed(func(n *api.Nest) { n.Takings[0].ID = api.MaxID - 1 })
	more, e := nest.Asked(last, 0, 0, any9)
	if e != api.OK || more.Peeps[2].ID != api.MaxID {
		t.Error("P4.5: the greatest ID:", more, e)
	}
	for _, n := range []api.Nest{
		many,
		changed(func(n *api.Nest) { n.Takings[0].ID = api.MaxID }),
		changed(func(n *api.Nest) { n.Peeps[0].ID = api.MaxID }),
		more,
	} {
		for _, c := range []call{
			{"Asked", func(n api.Nest) ([]any, api.Errno) { return one(nest.Asked(n, 0, 0, any9)) }},
			{"Asked", func(n api.Nest) ([]any, api.Errno) { return one(nest.Asked(n, 0, 0, api.Span{Lo: 1})) }},
			{"Ends", func(n api.Nest) ([]any, api.Errno) { return one(nest.Ends(n, 0, 0)) }},
			{"CheckEnds", func(n api.Nest) ([]any, api.Errno) { return nil, nest.CheckEnds(n, 0, 0, api.Number{}) }},
		} {
			failsAt(t, "P4.5", "no room for a look", c, n, api.ErrLimit)
		}
		_, e := nest.Rests(n, 0, 0)
		fails(t, "P4.7: no room for a look", e, api.OK)
	}
}

func TestWithout(t *testing.T) {
	for _, x := range []struct {
		ids   []int
		peeps []int
		takes int
	}{
		{nil, []int{11, 12, 14}, 1},
		{[]int{12}, []int{11, 14}, 1},
		{[]int{13, 11}, []int{12, 14}, 0},
		{[]int{0, -1, 99, 14, 14, math.MaxInt, math.MinInt}, []int{11, 12}, 1},
		{[]int{11, 12, 13, 14}, nil, 0},
	} {
		n := example(4)
		less, e := nest.Without(n, x.ids)
		if want := drop(n, x.ids...); e != api.OK || !reflect.DeepEqual(less.Breed, n.Breed) || less.Last != 12 || !slices.Equal(less.Peeps, want.Peeps) || !slices.Equal(less.Takings, want.Takings) {
			t.Errorf("P4.8: without %v: %+v, error %d", x.ids, less, e)
		}
		peeps, _ := toldIDs(less)
		if !slices.Equal(peeps, x.peeps) || len(less.Takings) != x.takes {
			t.Errorf("P4.8: without %v: looks %v, %d takings", x.ids, peeps, len(less.Takings))
		}
	}
	n := example(4)
	slices.Reverse(n.Peeps)
	if less, e := nest.Without(n, []int{12}); e != api.OK || less.Peeps[0].ID != 14 || less.Peeps[1].ID != 11 {
		t.Errorf("P4.8: the others keep their order: %+v, error %d", less.Peeps, e)
	}
}

// copyOf returns a nest that shares no memory with another one.
func copyOf(n api.Nest) api.Nest {
	n.Breed.Phases, n.Breed.Changes = slices.Clone(n.Breed.Phases), slices.Clone(n.Breed.Changes)
	n.Peeps, n.Takings = slices.Clone(n.Peeps), slices.Clone(n.Takings)
	return n
}

// spread returns a list behind which, up to its capacity, there is something, and the whole of it.
func spread[T any](l []T, x T) ([]T, []T) {
	all := append(slices.Clone(l), x, x)
	return all[:len(l)], all
}

func TestArgumentsStayTheSame(t *testing.T) {
	for told := range 5 {
		n := example(told)
		slices.Reverse(n.Peeps)
		whole := n
		n.Breed.Phases, whole.Breed.Phases = spread(n.Breed.Phases, api.Phase{Eggs: 99})
		n.Breed.Changes, whole.Breed.Changes = spread(n.Breed.Changes, api.Change{From: 99})
		n.Peeps, whole.Peeps = spread(n.Peeps, api.Peep{ID: 99})
		n.Takings, whole.Takings = spread(n.Takings, api.Taking{ID: 99})
		before := copyOf(whole)
		for number := range 3 {
			for _, c := range calls(number) {
				if c.do(n); !reflect.DeepEqual(whole, before) {
					t.Fatalf("R6: %s: the nest was %+v, and is %+v", c.name, before, whole)
				}
			}
		}
	}
	n := example(3)
	x, _ := nest.Ends(n, 0, 4)
	y, _ := nest.Ends(n, 0, 4)
	nest.CheckEnds(n, 0, 4, x)
	nest.Fits(n, x.Low)
	nest.CheckContradiction(n, x.Below)
	if !reflect.DeepEqual(x, y) {
		t.Errorf("R6: the number was %+v, and is %+v", y, x)
	}
	ids := []int{14, 11, 13}
	nest.Without(n, ids[:2])
	if !slices.Equal(ids, []int{14, 11, 13}) {
		t.Error("R6: the IDs are", ids)
	}
}

// spoil changes all that is in the lists of a result.
func spoil(v reflect.Value) {
	switch v.Kind() {
	case reflect.Slice:
		for i := range v.Len() {
			spoil(v.Index(i))
		}
	case reflect.Struct:
		for i := range v.NumField() {
			spoil(v.Field(i))
		}
	case reflect.Array:
		for i := range v.Len() {
			spoil(v.Index(i))
		}
	case reflect.Int:
		if v.CanSet() {
			v.SetInt(v.Int() - 1000)
		}
	}
}

func TestResultsAreNew(t *testing.T) {
	for told := range 5 {
		n := example(told)
		for number := range 3 {
			for _, c := range calls(number) {
				first, e := c.do(n)
				for _, x := range first {
					spoil(reflect.ValueOf(x))
				}
				second, f := c.do(n)
				third, g := c.do(example(told))
				if e != f || f != g || !reflect.DeepEqual(second, third) {
					t.Fatalf("R6, R7: %s: %v, and %v of the same, errors %d, %d and %d", c.name, second, third, e, f, g)
				}
			}
		}
	}
}

// lists appends the first elements of all lists in a result, by their addresses.
func lists(v reflect.Value, all []uintptr) []uintptr {
	switch v.Kind() {
	case reflect.Slice:
		if v.Len() > 0 {
			all = append(all, v.Pointer())
		}
		for i := range v.Len() {
			all = lists(v.Index(i), all)
		}
	case reflect.Struct:
		for i := range v.NumField() {
			all = lists(v.Field(i), all)
		}
	}
	return all
}

func TestListsOfResultsAreTheirOwn(t *testing.T) {
	n := example(3)
	x, e := nest.Ends(n, api.NsSquabs, 11)
	if e != api.OK || x.Span.Lo != x.Span.Hi {
		t.Fatal("P4.5: both ends are the same:", x, e)
	}
	_, least, most, _ := nest.Times(n, 2)
	sure, possible, _ := nest.Days(example(0), 0)
	reach, _ := nest.Reach(n)
	for _, r := range []any{x, [][]int{least, most}, [][]api.Span{sure, possible}, reach} {
		all := lists(reflect.ValueOf(r), nil)
		if slices.Sort(all); len(slices.Compact(slices.Clone(all))) != len(all) {
			t.Errorf("R6: lists of a result share memory: %+v", r)
		}
	}
}
