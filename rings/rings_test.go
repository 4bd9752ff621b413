package rings_test

import (
	"math"
	"reflect"
	"slices"
	"testing"

	"potence/api"
	"potence/rings"
)

// example returns the roll of the chapter's examples.
func example() api.Roll {
	return api.Roll{Moves: 5, Seen: []api.Seen{
		{ID: 1, Day: 1, Hole: 10, Rings: [4]int{2, 3}},
		{ID: 2, Day: 2, Hole: 12, Rings: [4]int{2, 3}},
		{ID: 3, Day: 4, Hole: 12, Rings: [4]int{2}},
		{ID: 4, Day: 5, Hole: 30, Rings: [4]int{2}},
		{ID: 5, Day: 9, Hole: 14},
	}}
}

// mixed returns the roll of the examples in another order, with other IDs: 10 less the one of the examples.
func mixed() api.Roll {
	r := example()
	for i := range r.Seen {
		r.Seen[i].ID = 10 - r.Seen[i].ID
	}
	r.Seen[0], r.Seen[3] = r.Seen[3], r.Seen[0]
	return r
}

// full returns as many sightings as there may be, of which each one can follow the one before it.
func full() api.Roll {
	r := api.Roll{Moves: 1000}
	for i := range 40 {
		r.Seen = append(r.Seen, api.Seen{ID: api.MaxID - i, Day: 730 - 39 + i, Hole: 1000 * (i % 2), Rings: [4]int{9, 9, 9, 9}})
	}
	return r
}

// flat returns as many sightings as there may be, all of one day.
func flat() api.Roll {
	r := full()
	for i := range r.Seen {
		r.Seen[i].Day = 0
	}
	return r
}

// changed returns the roll of the examples with a change.
func changed(change func(r *api.Roll)) api.Roll {
	r := example()
	change(&r)
	return r
}

// fails reports a promise whose error is not the one that is wanted.
func fails(t *testing.T, what string, got, want api.Errno) {
	t.Helper()
	if got != want {
		t.Errorf("%s: got error %d, want %d", what, got, want)
	}
}

// same reports a promise whose list is not the one that is wanted.
func same[T comparable](t *testing.T, what string, got []T, e api.Errno, want ...T) {
	t.Helper()
	if e != api.OK || !slices.Equal(got, want) {
		t.Errorf("%s: got %v, error %d, want %v", what, got, e, want)
	}
}

// wrong is a roll that is not right, and its first error.
type wrong struct {
	what string
	r    api.Roll
	e    api.Errno
}

// wrongRolls returns rolls that are not right.
func wrongRolls() []wrong {
	all := []wrong{
		{"41 sightings", api.Roll{Seen: append(full().Seen, api.Seen{ID: 1})}, api.ErrLimit},
		{"41 sightings that are none", api.Roll{Seen: make([]api.Seen, 41)}, api.ErrLimit},
		{"40 sightings that are none", api.Roll{Seen: make([]api.Seen, 40)}, api.ErrArg},
		{"41 sightings, and no Moves", api.Roll{Moves: -1, Seen: make([]api.Seen, 41)}, api.ErrArg},
		{"an ID twice", changed(func(r *api.Roll) { r.Seen[4].ID = 1 }), api.ErrTwice},
		{"a sighting twice", changed(func(r *api.Roll) { r.Seen[1] = r.Seen[0] }), api.ErrTwice},
		{"an ID twice, with no day", changed(func(r *api.Roll) { r.Seen[4].ID, r.Seen[4].Day = 1, -1 }), api.ErrArg},
		{"an ID twice, with no colour", changed(func(r *api.Roll) { r.Seen[4].ID, r.Seen[4].Rings[3] = 1, 10 }), api.ErrArg},
		{"an ID twice, then no ID", changed(func(r *api.Roll) { r.Seen[1].ID, r.Seen[2].ID = 1, 0 }), api.ErrTwice},
		{"no ID, then an ID twice", changed(func(r *api.Roll) { r.Seen[1].ID, r.Seen[3].ID = 0, 1 }), api.ErrArg},
	}
	for _, x := range []int{-1, 1001, math.MinInt, math.MaxInt} {
		all = append(all,
			wrong{"moves", changed(func(r *api.Roll) { r.Moves = x }), api.ErrArg},
			wrong{"moves of no sightings", api.Roll{Moves: x}, api.ErrArg},
			wrong{"hole", changed(func(r *api.Roll) { r.Seen[0].Hole = x }), api.ErrArg})
	}
	for _, x := range []int{0, -1, api.MaxID + 1, math.MinInt, math.MaxInt} {
		all = append(all, wrong{"ID", changed(func(r *api.Roll) { r.Seen[1].ID = x }), api.ErrArg})
	}
	for _, x := range []int{-1, 731, math.MinInt, math.MaxInt} {
		all = append(all, wrong{"day", changed(func(r *api.Roll) { r.Seen[4].Day = x }), api.ErrArg})
	}
	for place := range 4 {
		for _, x := range []int{-1, 10, math.MinInt, math.MaxInt} {
			all = append(all, wrong{"colour", changed(func(r *api.Roll) { r.Seen[2].Rings[place] = x }), api.ErrArg})
		}
	}
	return all
}

func TestCheck(t *testing.T) {
	for i, r := range []api.Roll{
		{}, {Moves: 1000}, example(), mixed(), full(), flat(),
		{Seen: []api.Seen{{ID: 1}}},
		{Moves: 1000, Seen: []api.Seen{{ID: api.MaxID, Day: 730, Hole: 1000, Rings: [4]int{9, 9, 9, 9}}}},
		changed(func(r *api.Roll) { r.Seen[1] = r.Seen[0]; r.Seen[1].ID = 2 }),
	} {
		if e := rings.Check(r); e != api.OK {
			t.Errorf("P5.1: the right roll %d: error %d", i, e)
		}
	}
	for _, x := range wrongRolls() {
		fails(t, "P5.1: "+x.what, rings.Check(x.r), x.e)
	}
}

// call is a function with a roll: its results but for the error.
type call struct {
	name string
	do   func(r api.Roll) ([]any, api.Errno)
}

// one and two return the results of a function in one list.
func one[T any](x T, e api.Errno) ([]any, api.Errno) { return []any{x}, e }

func two[T, U any](x T, y U, e api.Errno) ([]any, api.Errno) { return []any{x, y}, e }

// callsOf returns the functions with sightings.
func callsOf(a, b int) []call {
	x, ids := api.Next{Before: a, After: b}, []int{a, b}
	return []call{
		{"Can", func(r api.Roll) ([]any, api.Errno) { return one(rings.Can(r, a, b)) }},
		{"Made", func(r api.Roll) ([]any, api.Errno) { return one(rings.Made(r, x)) }},
		{"Missed", func(r api.Roll) ([]any, api.Errno) { return one(rings.Missed(r, x)) }},
		{"Among", func(r api.Roll) ([]any, api.Errno) { return one(rings.Among(r, ids)) }},
		{"Without", func(r api.Roll) ([]any, api.Errno) { return one(rings.Without(r, ids)) }},
	}
}

// calls returns all functions with a roll; a and b are its sightings, place is a place.
func calls(a, b, place int) []call {
	return append(callsOf(a, b),
		call{"Check", func(r api.Roll) ([]any, api.Errno) { return nil, rings.Check(r) }},
		call{"Later", func(r api.Roll) ([]any, api.Errno) { return one(rings.Later(r, a)) }},
		call{"Fewest", func(r api.Roll) ([]any, api.Errno) { return one(rings.Fewest(r)) }},
		call{"CheckFewest", func(r api.Roll) ([]any, api.Errno) {
			return nil, rings.CheckFewest(r, api.Birds{Chains: [][]int{{a, b}, {}}, Apart: []int{b, a}})
		}},
		call{"Count", func(r api.Roll) ([]any, api.Errno) { return one(rings.Count(r)) }},
		call{"Explains", func(r api.Roll) ([]any, api.Errno) { return one(rings.Explains(r, [][]int{{a, b}, {}})) }},
		call{"Surely", func(r api.Roll) ([]any, api.Errno) { return one(rings.Surely(r)) }},
		call{"Possibly", func(r api.Roll) ([]any, api.Errno) { return one(rings.Possibly(r)) }},
		call{"Firsts", func(r api.Roll) ([]any, api.Errno) { return two(rings.Firsts(r)) }},
		call{"Lasts", func(r api.Roll) ([]any, api.Errno) { return two(rings.Lasts(r)) }},
		call{"Longest", func(r api.Roll) ([]any, api.Errno) { return one(rings.Longest(r)) }},
		call{"Levels", func(r api.Roll) ([]any, api.Errno) { return one(rings.Levels(r)) }},
		call{"CheckLevels", func(r api.Roll) ([]any, api.Errno) { return nil, rings.CheckLevels(r, []int{b, a}, []int{place}) }},
		call{"Lose", func(r api.Roll) ([]any, api.Errno) { return one(rings.Lose(r, a, place)) }},
		call{"Needed", func(r api.Roll) ([]any, api.Errno) { return one(rings.Needed(r)) }},
		call{"Join", func(r api.Roll) ([]any, api.Errno) { return one(rings.Join(r, example())) }})
}

// isZero says whether a result is a zero value, or an empty list.
func isZero(x any) bool {
	v := reflect.ValueOf(x)
	return v.IsZero() || v.Kind() == reflect.Slice && v.Len() == 0
}

// failsAt reports a function that does not return just an error.
func failsAt(t *testing.T, promise, what string, c call, r api.Roll, want api.Errno) {
	t.Helper()
	got, e := c.do(r)
	if e != want || slices.ContainsFunc(got, func(x any) bool { return !isZero(x) }) {
		t.Errorf("%s: %s of %s: %v, error %d, want %d", promise, c.name, what, got, e, want)
	}
}

func TestFirstErrors(t *testing.T) {
	for _, x := range wrongRolls() {
		for _, c := range slices.Concat(calls(2, 3, 0), calls(3, 2, -1), calls(99, 98, 4)) {
			failsAt(t, "P5.1, R4", x.what, c, x.r, x.e)
		}
		r, e := rings.Join(example(), x.r)
		if fails(t, "P5.10: second: "+x.what, e, x.e); !isZero(r) {
			t.Error("R4: second:", x.what, r)
		}
	}
}

// named returns those of some functions that have one of some names.
func named(all []call, names ...string) []call {
	return slices.DeleteFunc(all, func(c call) bool { return !slices.Contains(names, c.name) })
}

func TestErrorsOfSightings(t *testing.T) {
	for _, x := range []int{0, -1, 6, api.MaxID, math.MinInt, math.MaxInt} {
		for _, place := range []int{0, 2, -1, 4} {
			for _, c := range named(calls(x, 1, place), "Later", "Lose") {
				failsAt(t, "R3, R4", "a sighting that is none", c, example(), api.ErrNone)
			}
		}
		for _, c := range slices.Concat(callsOf(x, 1), callsOf(1, x), callsOf(x, x), callsOf(5, x)) {
			failsAt(t, "R3, R4", "a sighting that is none", c, example(), api.ErrNone)
			failsAt(t, "R3, R4", "a sighting of a roll that has none", c, api.Roll{}, api.ErrNone)
		}
	}
}

func TestCan(t *testing.T) {
	for _, x := range []struct {
		a, b int
		want bool
	}{
		{1, 4, true}, {2, 4, false}, {3, 4, false}, {1, 2, true}, {2, 3, true}, {3, 5, true}, {4, 5, true},
		{2, 1, false}, {4, 1, false}, {5, 4, false}, {1, 1, false}, {5, 5, false},
	} {
		if is, e := rings.Can(example(), x.a, x.b); is != x.want || e != api.OK {
			t.Errorf("P5.1: Can %d %d: %v, error %d", x.a, x.b, is, e)
		}
		if is, e := rings.Can(mixed(), 10-x.a, 10-x.b); is != x.want || e != api.OK {
			t.Errorf("P5.1: Can %d %d in another order: %v, error %d", x.a, x.b, is, e)
		}
	}
}

// canFollow says whether Can tells that the second one of two sightings can follow the first one.
func canFollow(t *testing.T, moves int, a, b api.Seen) bool {
	t.Helper()
	a.ID, b.ID = 7, 3
	is, e := rings.Can(api.Roll{Moves: moves, Seen: []api.Seen{b, a}}, 7, 3)
	fails(t, "P5.1: Can", e, api.OK)
	return is
}

func TestDaysAndHoles(t *testing.T) {
	for _, x := range []struct {
		moves, days, holes int
		want               bool
	}{
		{0, 1, 0, true}, {0, 1, 1, false}, {0, 600, 1, false}, {1, 1, 1, true}, {1, 1, 2, false}, {1, 3, 3, true}, {1, 3, 4, false},
		{7, 2, 14, true}, {7, 2, 15, false}, {1000, 1, 500, true}, {1000, 600, 500, true},
		{1000, 0, 0, false}, {1000, -1, 0, false}, {1000, -2, 1, false}, {0, 0, 0, false}, {3, -1, 3, false},
	} {
		for _, way := range []int{1, -1} {
			a := api.Seen{Day: 100, Hole: 500}
			b := api.Seen{Day: 100 + x.days, Hole: 500 + way*x.holes}
			if is := canFollow(t, x.moves, a, b); is != x.want {
				t.Errorf("P5.1: %d holes in %d days, with %d: %v", way*x.holes, x.days, x.moves, is)
			}
		}
	}
	if !canFollow(t, 1000, api.Seen{}, api.Seen{Day: 1, Hole: 1000}) || canFollow(t, 999, api.Seen{Hole: 1000}, api.Seen{Day: 1}) {
		t.Error("P5.1: all holes in a day")
	}
}

func TestRings(t *testing.T) {
	for place := range 4 {
		for before := range 10 {
			for after := range 10 {
				a, b := api.Seen{Day: 1, Rings: [4]int{5, 6, 7, 8}}, api.Seen{Day: 2, Rings: [4]int{5, 6, 7, 8}}
				a.Rings[place], b.Rings[place] = before, after
				if is := canFollow(t, 0, a, b); is != (after == 0 || after == before) {
					t.Errorf("P5.1: the ring %d at the place %d after %d: %v", after, place, before, is)
				}
			}
		}
	}
	if canFollow(t, 0, api.Seen{Day: 1, Rings: [4]int{1, 2}}, api.Seen{Day: 2, Rings: [4]int{2, 1}}) {
		t.Error("P5.1: rings that change places")
	}
	if !canFollow(t, 0, api.Seen{Day: 1, Rings: [4]int{1, 2, 3, 4}}, api.Seen{Day: 2}) {
		t.Error("P5.1: all rings are lost")
	}
}

func TestLater(t *testing.T) {
	for id, want := range [][]int{1: {2, 3, 4, 5}, 2: {3, 5}, 3: {5}, 4: {5}, 5: nil} {
		if id == 0 {
			continue
		}
		l, e := rings.Later(example(), id)
		same(t, "P5.1: Later", l, e, want...)
		for i := range want {
			want[i] = 10 - want[i]
		}
		slices.Sort(want)
		l, e = rings.Later(mixed(), 10-id)
		same(t, "P5.1: Later in another order", l, e, want...)
	}
	l, e := rings.Later(full(), api.MaxID)
	if e != api.OK || len(l) != 39 || !slices.IsSorted(l) || l[0] != api.MaxID-39 {
		t.Error("P5.1: Later of the first of 40:", l, e)
	}
}

// TestOneOrder also holds Can and Later against the chapter's terms.
func TestOneOrder(t *testing.T) {
	d := dice(1)
	for range 300 {
		r := d.rolled(9)
		for _, a := range idsOf(r) {
			var want []int
			for _, b := range idsOf(r) {
				is, e := rings.Can(r, a, b)
				if e != api.OK || is != followsID(r, a, b) {
					t.Fatalf("P5.1: Can %d %d of %v: %v, error %d", a, b, r, is, e)
				}
				if is {
					want = append(want, b)
				}
			}
			l, e := rings.Later(r, a)
			same(t, "P5.1: Later", l, e, want...)
			for _, b := range l {
				further, _ := rings.Later(r, b)
				for _, c := range further {
					if !slices.Contains(l, c) || !isChain(r, []int{a, b, c}) {
						t.Fatalf("P5.12: %d, %d, %d of %v", a, b, c, r)
					}
				}
			}
		}
	}
}

func TestLose(t *testing.T) {
	r, e := rings.Lose(example(), 2, 1)
	want := changed(func(r *api.Roll) { r.Seen[1].Rings = [4]int{2} })
	if e != api.OK || !reflect.DeepEqual(r, want) {
		t.Fatal("P5.8: Lose 2 at the place 1:", r, e)
	}
	for _, x := range [][2]int{{1, 2}, {2, 3}} {
		if is, e := rings.Can(r, x[0], x[1]); !is || e != api.OK {
			t.Errorf("P5.8: Can %v: %v, error %d", x, is, e)
		}
	}
	for place := range 4 {
		for i, s := range full().Seen {
			r, e := rings.Lose(full(), s.ID, place)
			want := full()
			if want.Seen[i].Rings[place] = 0; e != api.OK || !reflect.DeepEqual(r, want) {
				t.Errorf("P5.8: Lose %d at the place %d: %v, error %d", s.ID, place, r, e)
			}
		}
	}
	for _, x := range []struct {
		id, place int
		e         api.Errno
	}{
		{1, -1, api.ErrArg}, {1, 4, api.ErrArg}, {5, 4, api.ErrArg}, {5, math.MinInt, api.ErrArg}, {5, math.MaxInt, api.ErrArg},
		{1, 2, api.ErrNone}, {1, 3, api.ErrNone}, {3, 1, api.ErrNone}, {5, 0, api.ErrNone},
		{6, 4, api.ErrNone}, {0, -1, api.ErrNone},
	} {
		r, e := rings.Lose(example(), x.id, x.place)
		if e != x.e || !isZero(r) {
			t.Errorf("P5.8: Lose %d at the place %d: %v, error %d, want %d", x.id, x.place, r, e, x.e)
		}
	}
}

func TestWithout(t *testing.T) {
	r := mixed()
	for _, ids := range [][]int{nil, {5}, {6}, {9}, {5, 7, 9}, {9, 7, 5}, {8, 8}, {6, 9, 6, 9}, {5, 6, 7, 8, 9}, {9, 5, 7, 8, 6, 9}} {
		got, e := rings.Without(r, ids)
		if e != api.OK || got.Moves != 5 || !slices.Equal(got.Seen, drop(r, ids...).Seen) {
			t.Errorf("P5.8: without %v: %v, error %d", ids, got, e)
		}
	}
	for _, ids := range [][]int{{1}, {5, 6, 4}, {0, 5}, {5, 5, 10}} {
		if got, e := rings.Without(r, ids); e != api.ErrNone || !isZero(got) {
			t.Errorf("P5.8: without %v: %v, error %d", ids, got, e)
		}
	}
	if got, e := rings.Without(api.Roll{Moves: 3}, nil); e != api.OK || got.Moves != 3 || len(got.Seen) != 0 {
		t.Error("P5.8: without nothing of nothing:", got, e)
	}
}

func TestJoin(t *testing.T) {
	further := api.Seen{ID: 6, Day: 1}
	earlier := api.Seen{ID: 7, Day: 3, Rings: [4]int{1, 1, 1, 1}}
	s := example().Seen
	for i, x := range []struct{ a, b, want []api.Seen }{
		{nil, nil, nil},
		{s, nil, s},
		{nil, s, s},
		{s, s, s},
		{s[:3], s[2:], s},
		{s[2:], s, []api.Seen{s[2], s[3], s[4], s[0], s[1]}},
		{s[:2], []api.Seen{earlier, s[1], further, s[0]}, []api.Seen{s[0], s[1], earlier, further}},
		{[]api.Seen{further}, []api.Seen{earlier, s[4]}, []api.Seen{further, earlier, s[4]}},
	} {
		r, e := rings.Join(api.Roll{Moves: 5, Seen: x.a}, api.Roll{Moves: 5, Seen: x.b})
		if e != api.OK || r.Moves != 5 || !slices.Equal(r.Seen, x.want) {
			t.Errorf("P5.10: join %d: %v, error %d", i, r, e)
		}
	}
}

func TestErrorsOfJoin(t *testing.T) {
	other := func(change func(s *api.Seen)) api.Roll {
		r := api.Roll{Moves: 5, Seen: []api.Seen{{ID: 9}, example().Seen[2]}}
		change(&r.Seen[1])
		return r
	}
	slower := other(func(s *api.Seen) { s.Day++ })
	slower.Moves = 4
	many := full()
	many.Moves = 5
	more := api.Roll{Moves: 5, Seen: []api.Seen{many.Seen[39], {ID: 1}}}
	both := api.Roll{Moves: 5, Seen: []api.Seen{{ID: 1}, {ID: api.MaxID}}}
	for _, x := range []struct {
		what string
		a, b api.Roll
		e    api.Errno
	}{
		{"other Moves", example(), api.Roll{Moves: 4}, api.ErrArg},
		{"other Moves, and a clash", example(), slower, api.ErrArg},
		{"other Moves, too many", many, api.Roll{Moves: 6, Seen: more.Seen}, api.ErrArg},
		{"another day", example(), other(func(s *api.Seen) { s.Day++ }), api.ErrClash},
		{"another hole", example(), other(func(s *api.Seen) { s.Hole++ }), api.ErrClash},
		{"another ring", example(), other(func(s *api.Seen) { s.Rings[3] = 1 }), api.ErrClash},
		{"a ring less", example(), other(func(s *api.Seen) { s.Rings[0] = 0 }), api.ErrClash},
		{"one too many", many, more, api.ErrLimit},
		{"one too many, and a clash", many, both, api.ErrClash},
		{"the first one wrong, and the second one", api.Roll{Moves: -1}, api.Roll{Seen: make([]api.Seen, 41)}, api.ErrArg},
		{"too many, and no Moves", api.Roll{Seen: make([]api.Seen, 41)}, api.Roll{Moves: -1}, api.ErrLimit},
	} {
		r, e := rings.Join(x.a, x.b)
		if e != x.e || !isZero(r) {
			t.Errorf("P5.10: %s: %v, error %d, want %d", x.what, r, e, x.e)
		}
	}
	r, e := rings.Join(many, api.Roll{Moves: 5, Seen: more.Seen[:1]})
	if e != api.OK || !reflect.DeepEqual(r, many) {
		t.Error("P5.10: one of 40:", r, e)
	}
	less, _ := rings.Without(many, []int{api.MaxID})
	if r, e = rings.Join(less, more); e != api.OK || len(r.Seen) != 40 || r.Seen[39].ID != 1 {
		t.Error("P5.10: the 40th:", r, e)
	}
}

// spread returns a list behind which, up to its capacity, there is something, and the whole of it.
func spread[T any](l []T, x T) ([]T, []T) {
	all := append(slices.Clone(l), x, x)
	return all[:len(l)], all
}

func TestArgumentsStayTheSame(t *testing.T) {
	for _, r := range []api.Roll{{Moves: 3}, example(), mixed(), full(), flat()} {
		whole := r
		r.Seen, whole.Seen = spread(r.Seen, api.Seen{ID: 99})
		before := api.Roll{Moves: whole.Moves, Seen: slices.Clone(whole.Seen)}
		for _, c := range slices.Concat(calls(1, 2, 0), calls(9, 8, 0), calls(api.MaxID, api.MaxID-1, 3)) {
			if c.do(r); !reflect.DeepEqual(whole, before) {
				t.Fatalf("R6: %s: the roll was %v, and is %v", c.name, before, whole)
			}
		}
		rings.Join(example(), r)
		if !reflect.DeepEqual(whole, before) {
			t.Fatalf("R6: Join: the roll was %v, and is %v", before, whole)
		}
	}
	chains, all := spread([][]int{{1, 2, 3, 5}, {4}}, []int{99})
	chains[0], _ = spread(chains[0], 99)
	apart, wholeApart := spread([]int{3, 4}, 99)
	levels, wholeLevels := spread([]int{1, 2, 3, 2, 4}, 99)
	rings.Explains(example(), chains)
	fails(t, "P5.2", rings.CheckFewest(example(), api.Birds{Chains: chains, Apart: apart}), api.OK)
	fails(t, "P5.7", rings.CheckLevels(example(), chains[0], levels), api.OK)
	rings.Among(example(), apart)
	rings.Without(example(), apart)
	if !reflect.DeepEqual(all, [][]int{{1, 2, 3, 5}, {4}, {99}, {99}}) || !slices.Equal(chains[0][:6], []int{1, 2, 3, 5, 99, 99}) {
		t.Error("R6: the chains are", all, chains[0][:6])
	}
	if !slices.Equal(wholeApart, []int{3, 4, 99, 99}) || !slices.Equal(wholeLevels, []int{1, 2, 3, 2, 4, 99, 99}) {
		t.Error("R6: the lists are", wholeApart, wholeLevels)
	}
}

func TestArgumentsInAnyOrderStayTheSame(t *testing.T) {
	chains := [][]int{{9, 8, 7, 5}, {6}}
	ids := []int{9, 6, 8}
	if is, e := rings.Explains(mixed(), chains); !is || e != api.OK {
		t.Error("P5.3: Explains:", is, e)
	}
	rings.Without(mixed(), ids)
	rings.Among(mixed(), ids)
	if !slices.Equal(ids, []int{9, 6, 8}) || !reflect.DeepEqual(chains, [][]int{{9, 8, 7, 5}, {6}}) {
		t.Error("R6: the IDs are", ids, "and the chains", chains)
	}
}

// spoil changes all that is in the lists of a result.
func spoil(v reflect.Value) {
	switch v.Kind() {
	case reflect.Slice, reflect.Array:
		for i := range v.Len() {
			spoil(v.Index(i))
		}
	case reflect.Struct:
		for i := range v.NumField() {
			spoil(v.Field(i))
		}
	case reflect.Int:
		if v.CanSet() {
			v.SetInt(v.Int() - 1000)
		}
	}
}

func TestResultsAreNew(t *testing.T) {
	for _, made := range []func() api.Roll{example, mixed, full, flat, func() api.Roll { return api.Roll{} }} {
		r := made()
		for _, c := range slices.Concat(calls(1, 2, 0), calls(9, 8, 0), calls(api.MaxID, api.MaxID-1, 3)) {
			first, e := c.do(r)
			for _, x := range first {
				spoil(reflect.ValueOf(x))
			}
			second, f := c.do(r)
			third, g := c.do(made())
			if e != f || f != g || !reflect.DeepEqual(second, third) {
				t.Fatalf("R6, R7: %s: %v, and %v of the same, errors %d, %d and %d", c.name, second, third, e, f, g)
			}
		}
	}
	a, b := example(), api.Roll{Moves: 5, Seen: []api.Seen{{ID: 77}}}
	for _, x := range [][2]api.Roll{{a, b}, {b, a}, {a, {Moves: 5}}, {{Moves: 5}, a}} {
		joined, _ := rings.Join(x[0], x[1])
		spoil(reflect.ValueOf(joined))
		if !reflect.DeepEqual(a, example()) || b.Seen[0].ID != 77 {
			t.Fatal("R6: Join shares memory:", a, b)
		}
	}
}

// lists appends the first elements of all lists in a result, by their addresses.
func lists(v reflect.Value, all []uintptr) []uintptr {
	switch v.Kind() {
	case reflect.Slice:
		if v.Len() > 0 {
			all = append(all, v.Pointer())
		}
		for i := range v.Len() {
			all = lists(v.Index(i), all)
		}
	case reflect.Struct:
		for i := range v.NumField() {
			all = lists(v.Field(i), all)
		}
	}
	return all
}

func TestListsOfResultsAreTheirOwn(t *testing.T) {
	for _, r := range []api.Roll{example(), full(), flat()} {
		b, _ := rings.Fewest(r)
		sureFirsts, firsts, _ := rings.Firsts(r)
		sureLasts, lasts, _ := rings.Lasts(r)
		for _, x := range []any{b, [][]int{sureFirsts, firsts}, [][]int{sureLasts, lasts}} {
			all := lists(reflect.ValueOf(x), nil)
			if slices.Sort(all); len(slices.Compact(slices.Clone(all))) != len(all) {
				t.Errorf("R6: lists of a result share memory: %+v", x)
			}
		}
	}
}
