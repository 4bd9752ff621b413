package stick_test

import (
	"math"
	"reflect"
	"slices"
	"testing"

	"potence/api"
	"potence/stick"
)

// note returns a note.
func note(id int, odd bool, places ...int) api.Note {
	return api.Note{ID: id, Places: places, Odd: odd}
}

// example returns the stick of the chapter's examples.
func example() api.Stick {
	return api.Stick{Places: 5, Notes: []api.Note{
		note(1, true, 0), note(2, false, 0, 1), note(3, true, 1, 2, 3), note(4, true, 3, 4),
	}}
}

// broken returns the stick of the examples with the note 5, which contradicts 2.
func broken() api.Stick { return more(example(), note(5, true, 0, 1)) }

// single returns a stick of so many places, with a note for each of the first ones of which every third one is notched.
func single(places, notes int) api.Stick {
	s := api.Stick{Places: places}
	for p := range notes {
		s.Notes = append(s.Notes, note(api.MaxID-p, p%3 == 0, p))
	}
	return s
}

// great returns a stick with as many places and notes as there may be, of notches of which every third one is notched: notes of all places but one, of none, and of two.
func great() api.Stick {
	s := single(48, 0)
	truly := make([]bool, 48)
	for p := range truly {
		truly[p] = p%3 == 0
	}
	for p := range 46 {
		places := slices.Delete(upTo(48), p, p+1)
		s.Notes = append(s.Notes, note(100-p, isOdd(truly, places), places...))
	}
	s.Notes = append(s.Notes, note(200, false), note(1, isOdd(truly, upTo(48)), upTo(48)...))
	for p := range 12 {
		s.Notes = append(s.Notes, note(300+p, isOdd(truly, []int{p, p + 36}), p, p+36))
	}
	return s
}

// sticks returns some sticks that have no errors; the notes of the last two do not agree.
func sticks() []api.Stick {
	return []api.Stick{single(1, 0), single(1, 1), single(7, 3), example(), single(48, 40), great(),
		more(single(5, 2), note(1, false), note(2, true)), broken()}
}

// fails reports a promise whose error is not the one that is wanted.
func fails(t *testing.T, what string, got, want api.Errno) {
	t.Helper()
	if got != want {
		t.Errorf("%s: got error %d, want %d", what, got, want)
	}
}

// is reports a promise whose result is not the one that is wanted.
func is[T comparable](t *testing.T, what string, got T, e api.Errno, want T) {
	t.Helper()
	if e != api.OK || got != want {
		t.Errorf("%s: got %v, error %d, want %v", what, got, e, want)
	}
}

// same reports a promise whose list is not the one that is wanted.
func same[T comparable](t *testing.T, what string, got []T, e api.Errno, want ...T) {
	t.Helper()
	if e != api.OK || !slices.Equal(got, want) {
		t.Errorf("%s: got %v, error %d, want %v", what, got, e, want)
	}
}

// isStick reports a promise whose stick is not the one that is wanted.
func isStick(t *testing.T, what string, got api.Stick, e api.Errno, want api.Stick) {
	t.Helper()
	alike := func(a, b api.Note) bool {
		return a.ID == b.ID && a.Odd == b.Odd && slices.Equal(a.Places, b.Places)
	}
	if e != api.OK || got.Places != want.Places || !slices.EqualFunc(got.Notes, want.Notes, alike) {
		t.Errorf("%s: got %v, error %d, want %v", what, got, e, want)
	}
}

// bools returns notches that are told by digits.
func bools(digits string) []bool {
	var l []bool
	for _, c := range digits {
		l = append(l, c == '1')
	}
	return l
}

// wrong is a stick that is not valid, and its first error.
type wrong struct {
	what string
	s    api.Stick
	e    api.Errno
}

// strange are numbers that are neither places nor IDs.
var strange = []int{-1, 48, api.MaxID + 1, math.MinInt, math.MaxInt}

// wrongNotes returns sticks in which a note is wrong.
func wrongNotes() []wrong {
	var all []wrong
	bad := func(what string, s api.Stick) { all = append(all, wrong{what, s, api.ErrArg}) }
	for i := range 4 {
		for _, id := range []int{0, -1, api.MaxID + 1, math.MinInt, math.MaxInt} {
			s := example()
			s.Notes[i].ID = id
			bad("an ID", s)
		}
		for _, places := range [][]int{{-1}, {5}, {48}, {64}, {math.MinInt}, {math.MaxInt}, {0, 5}, {-1, 0}, {0, 0}, {4, 4}, {1, 0}, {0, 2, 1}, {0, 1, 1}, {0, 3, 2, 4}, {0, 1, 2, 3, 4, 5}, slices.Repeat([]int{0}, 49)} {
			s := example()
			s.Notes[i].Places = places
			bad("places", s)
		}
	}
	return all
}

// wrongSticks returns sticks that are not valid.
func wrongSticks() []wrong {
	all := wrongNotes()
	for _, n := range []int{0, -1, 49, math.MinInt, math.MaxInt} {
		many := great()
		many.Places, many.Notes = n, append(many.Notes, many.Notes...)
		all = append(all, wrong{"a number of places, and 120 notes", many, api.ErrArg}, wrong{"a number of places alone", api.Stick{Places: n}, api.ErrArg})
	}
	change := func(change func(n []api.Note)) api.Stick {
		s := broken()
		change(s.Notes)
		return s
	}
	return append(all,
		wrong{"61 notes", more(great(), note(99999, false)), api.ErrLimit},
		wrong{"61 notes that are none", api.Stick{Places: 48, Notes: make([]api.Note, 61)}, api.ErrLimit},
		wrong{"60 notes that are none", api.Stick{Places: 48, Notes: make([]api.Note, 60)}, api.ErrArg},
		wrong{"an ID twice", change(func(n []api.Note) { n[4].ID = 1 }), api.ErrTwice},
		wrong{"an ID twice in a row", change(func(n []api.Note) { n[1].ID = 1 }), api.ErrTwice},
		wrong{"a note twice", more(example(), note(1, true, 0)), api.ErrTwice},
		wrong{"an ID twice, and a place that is none", change(func(n []api.Note) { n[4] = note(1, true, 5) }), api.ErrArg},
		wrong{"an ID twice, then a place that is none", change(func(n []api.Note) { n[3].ID, n[4].Places = 1, []int{5} }), api.ErrTwice},
		wrong{"a place that is none, then an ID twice", change(func(n []api.Note) { n[3].Places, n[4].ID = []int{5}, 1 }), api.ErrArg})
}

func TestCheck(t *testing.T) {
	for i, s := range append(sticks(), single(48, 48), api.Stick{Places: 48, Notes: []api.Note{note(api.MaxID, false, upTo(48)...)}},
		api.Stick{Places: 3, Notes: []api.Note{note(7, true), note(5, false), note(1, true, []int{}...)}}) {
		if e := stick.Check(s); e != api.OK {
			t.Errorf("P9.1: the valid stick %d: error %d", i, e)
		}
	}
	for _, x := range wrongSticks() {
		fails(t, "P9.1: "+x.what, stick.Check(x.s), x.e)
	}
}

// call is a function with a stick: its results but for the error.
type call struct {
	name string
	do   func(s api.Stick) ([]any, api.Errno)
}

// one and two return the results of a function in one list.
func one[T any](x T, e api.Errno) ([]any, api.Errno) { return []any{x}, e }

func two[T, U any](x T, y U, e api.Errno) ([]any, api.Errno) { return []any{x, y}, e }

// input is what the functions are given beside a stick.
type input struct {
	place       int
	places, ids []int
	notched     []bool
	note        api.Note
	other       api.Stick
}

// calls returns all functions with a stick.
func calls(x input) []call {
	return []call{
		{"Check", func(s api.Stick) ([]any, api.Errno) { return nil, stick.Check(s) }},
		{"Fits", func(s api.Stick) ([]any, api.Errno) { return two(stick.Fits(s, x.notched)) }},
		{"Find", func(s api.Stick) ([]any, api.Errno) { return one(stick.Find(s)) }},
		{"Free", func(s api.Stick) ([]any, api.Errno) { return one(stick.Free(s)) }},
		{"Sure", func(s api.Stick) ([]any, api.Errno) { return one(stick.Sure(s)) }},
		{"Shows", func(s api.Stick) ([]any, api.Errno) { return two(stick.Shows(s, x.place)) }},
		{"CheckShows", func(s api.Stick) ([]any, api.Errno) { return nil, stick.CheckShows(s, x.place, true, x.ids) }},
		{"Tells", func(s api.Stick) ([]any, api.Errno) { return two(stick.Tells(s, x.places)) }},
		{"Clash", func(s api.Stick) ([]any, api.Errno) { return two(stick.Clash(s)) }},
		{"CheckClash", func(s api.Stick) ([]any, api.Errno) { return nil, stick.CheckClash(s, x.ids) }},
		{"Suspects", func(s api.Stick) ([]any, api.Errno) { return one(stick.Suspects(s)) }},
		{"Fewest", func(s api.Stick) ([]any, api.Errno) { return one(stick.Fewest(s)) }},
		{"Idle", func(s api.Stick) ([]any, api.Errno) { return one(stick.Idle(s)) }},
		{"Ask", func(s api.Stick) ([]any, api.Errno) { return one(stick.Ask(s)) }},
		{"Nearest", func(s api.Stick) ([]any, api.Errno) { return two(stick.Nearest(s, x.notched)) }},
		{"Add", func(s api.Stick) ([]any, api.Errno) { return one(stick.Add(s, x.note)) }},
		{"Without", func(s api.Stick) ([]any, api.Errno) { return one(stick.Without(s, x.ids)) }},
		{"Join", func(s api.Stick) ([]any, api.Errno) { return one(stick.Join([]api.Stick{s, x.other})) }},
		{"Within", func(s api.Stick) ([]any, api.Errno) { return two(stick.Within(s, x.other)) }},
		{"Within the other one", func(s api.Stick) ([]any, api.Errno) { return two(stick.Within(x.other, s)) }},
	}
}

// named returns those of all functions that have one of some names.
func named(x input, names ...string) []call {
	return slices.DeleteFunc(calls(x), func(c call) bool { return !slices.Contains(names, c.name) })
}

// isZero says whether a result is a zero value, or an empty list.
func isZero(x any) bool {
	v := reflect.ValueOf(x)
	return v.IsZero() || v.Kind() == reflect.Slice && v.Len() == 0
}

// failsAt reports a function that does not return just an error.
func failsAt(t *testing.T, promise, what string, c call, s api.Stick, want api.Errno) {
	t.Helper()
	got, e := c.do(s)
	if e != want || slices.ContainsFunc(got, func(x any) bool { return !isZero(x) }) {
		t.Errorf("%s: %s of %s: %v, error %d, want %d", promise, c.name, what, got, e, want)
	}
}

// right returns an input that is right for the stick of the examples, with or without the note 5.
func right() input {
	return input{1, []int{2, 3}, []int{1, 2}, bools("11001"), note(9, false, 2, 3), example()}
}

func TestFirstErrors(t *testing.T) {
	inputs := []input{right(), {other: single(48, 0), note: note(1, true, 0)}}
	for _, n := range strange {
		inputs = append(inputs, input{n, []int{n}, []int{n}, nil, note(n, true, n), single(9, 9)})
	}
	for _, x := range wrongSticks() {
		for _, in := range inputs {
			for _, c := range calls(in) {
				failsAt(t, "P9.1, R3, R4", x.what, c, x.s, x.e)
			}
		}
		for _, y := range wrongSticks() {
			if x.e != y.e {
				for _, c := range named(input{other: y.s}, "Join", "Within") {
					failsAt(t, "R3, R4", x.what+", then "+y.what, c, x.s, x.e)
				}
			}
		}
	}
}

func TestErrorsOfArguments(t *testing.T) {
	for _, s := range []api.Stick{example(), broken()} {
		for _, place := range append(strange, 5, 6) {
			for _, c := range named(input{place: place, ids: []int{1, 2}}, "Shows", "CheckShows") {
				failsAt(t, "R3, R4", "no place", c, s, api.ErrArg)
			}
			for _, places := range [][]int{{place}, {0, place}, {place, 1}, {2, place, 3}} {
				for _, c := range named(input{places: places}, "Tells") {
					failsAt(t, "R3, R4", "no place", c, s, api.ErrArg)
				}
			}
		}
		for _, places := range [][]int{{0, 0}, {4, 4}, {1, 0}, {0, 2, 1}, {0, 1, 2, 3, 4, 4}} {
			for _, c := range named(input{places: places}, "Tells") {
				failsAt(t, "R3, R4", "no list of places", c, s, api.ErrArg)
			}
		}
		for _, ids := range [][]int{{0}, {6}, {-1}, {math.MaxInt}, {1, 6}, {0, 1}, {1, 1}, {2, 1}, {1, 3, 2}, {1, 2, 2}, {1, 1, 2}, slices.Repeat([]int{1}, 99)} {
			for _, c := range named(input{place: 1, ids: ids}, "CheckShows", "CheckClash", "Without") {
				failsAt(t, "R3, R4", "no list of notes", c, s, api.ErrArg)
			}
		}
		for _, notched := range []string{"", "1", "1100", "110010", "11001000000000000000000000000000000000000000000000000000000000000"} {
			for _, c := range named(input{notched: bools(notched)}, "Fits", "Nearest") {
				failsAt(t, "R3, R4", "no notches", c, s, api.ErrArg)
			}
		}
	}
	for _, c := range named(input{notched: make([]bool, 47)}, "Nearest") {
		failsAt(t, "P9.8, R3", "no notches, and too many free places", c, single(48, 0), api.ErrArg)
	}
}

func TestErrorsOfNotesThatDoNotAgree(t *testing.T) {
	empty := api.Stick{Places: 5, Notes: []api.Note{note(1, true), note(2, false)}}
	for _, s := range []api.Stick{broken(), empty, more(single(5, 5), note(1, false, 0, 1, 2), note(2, true, 0, 1, 2))} {
		x := right()
		for _, place := range upTo(5) {
			x.place = place
			for _, c := range named(x, "Find", "Free", "Sure", "Shows", "Tells", "Idle", "Ask", "Nearest") {
				failsAt(t, "R3, R4", "notes that do not agree", c, s, api.ErrClash)
			}
		}
	}
	x := input{notched: make([]bool, 48)}
	for _, c := range named(x, "Nearest") {
		failsAt(t, "P9.8, R3", "notes that do not agree, and free places", c, more(single(48, 1), note(1, false, 0)), api.ErrClash)
	}
}

func TestFits(t *testing.T) {
	for _, x := range []struct {
		s       api.Stick
		notched string
		id      int
		fits    bool
	}{
		{example(), "11001", 0, true}, {example(), "11110", 0, true}, {example(), "00000", 1, false}, {example(), "10000", 2, false},
		{example(), "11000", 4, false}, {example(), "11100", 3, false}, {example(), "11111", 4, false}, {example(), "11101", 3, false},
		{broken(), "11001", 5, false}, {broken(), "10001", 2, false}, {broken(), "00001", 1, false},
		{single(2, 0), "01", 0, true}, {single(2, 2), "11", api.MaxID - 1, false},
		{api.Stick{Places: 1, Notes: []api.Note{note(7, false), note(3, true)}}, "1", 3, false},
		{api.Stick{Places: 1, Notes: []api.Note{note(9, true), note(3, true)}}, "0", 9, false},
		{api.Stick{Places: 1, Notes: []api.Note{note(9, false)}}, "0", 0, true},
		{great(), "100100100100100100100100100100100100100100100100", 0, true},
		{great(), "100100100100100100100100100100100100100100100101", 100, false},
	} {
		id, fits, e := stick.Fits(x.s, bools(x.notched))
		if id != x.id || fits != x.fits || e != api.OK {
			t.Errorf("P9.1: Fits of %s: %d, %v, error %d, want %d, %v", x.notched, id, fits, e, x.id, x.fits)
		}
	}
}

func TestFitsOfAllNotches(t *testing.T) {
	d := dice(1)
	for range 400 {
		s := d.rolled(6, 8, 3)
		for _, x := range allNotches(s.Places) {
			want := append(misfits(s, x), 0)[0]
			id, fits, e := stick.Fits(s, x)
			if id != want || fits != (want == 0) || e != api.OK {
				t.Fatalf("P9.1: Fits of %v of %v: %d, %v, error %d, want %d", x, s, id, fits, e, want)
			}
		}
	}
}

func TestCut(t *testing.T) {
	s, e := stick.Cut(bools("101"), [][]int{{0, 2}, {1}})
	isStick(t, "P9.12: the example", s, e, api.Stick{Places: 3, Notes: []api.Note{note(1, false, 0, 2), note(2, false, 1)}})
	s, e = stick.Cut(bools("1"), nil)
	isStick(t, "P9.12: no groups", s, e, single(1, 0))
	s, e = stick.Cut(bools("10"), [][]int{nil, {0}, {}, {0}, {0, 1}})
	isStick(t, "P9.12: a group twice, and none", s, e, api.Stick{Places: 2, Notes: []api.Note{note(1, false), note(2, true, 0), note(3, false), note(4, true, 0), note(5, true, 0, 1)}})
	full := slices.Repeat([]bool{true}, 48)
	s, e = stick.Cut(full, slices.Repeat([][]int{upTo(47)}, 60))
	if e != api.OK || len(s.Notes) != 60 || s.Places != 48 || !s.Notes[59].Odd || s.Notes[59].ID != 60 || stick.Check(s) != api.OK {
		t.Error("P9.12: 60 groups:", s, e)
	}
	d := dice(2)
	for range 300 {
		x := d.notched(1 + d.roll(48))
		var groups [][]int
		var want api.Stick
		want.Places = len(x)
		for i := range d.roll(61) {
			groups = append(groups, d.group(len(x), 1+d.roll(6)))
			want.Notes = append(want.Notes, note(i+1, isOdd(x, groups[i]), groups[i]...))
		}
		s, e := stick.Cut(x, groups)
		isStick(t, "P9.12: Cut", s, e, want)
	}
}

func TestErrorsOfCut(t *testing.T) {
	many := slices.Repeat([][]int{{-1}}, 61)
	for _, x := range []struct {
		what    string
		notched []bool
		groups  [][]int
		e       api.Errno
	}{
		{"no notches", nil, nil, api.ErrArg},
		{"no notches, and many groups", []bool{}, many, api.ErrArg},
		{"49 notches", make([]bool, 49), many, api.ErrArg},
		{"100 notches", make([]bool, 100), nil, api.ErrArg},
		{"61 groups", make([]bool, 48), many, api.ErrLimit},
		{"61 empty groups", bools("1"), make([][]int, 61), api.ErrLimit},
		{"60 groups", bools("1"), many[:60], api.ErrArg},
		{"no place", bools("11"), [][]int{{2}}, api.ErrArg},
		{"no place behind one", bools("11"), [][]int{{0}, {1, 2}}, api.ErrArg},
		{"less than 0", bools("11"), [][]int{{-1, 0}}, api.ErrArg},
		{"a great number", bools("11"), [][]int{{0, math.MaxInt}}, api.ErrArg},
		{"a small number", bools("11"), [][]int{{math.MinInt}}, api.ErrArg},
		{"a place twice", bools("11"), [][]int{{0, 0}}, api.ErrArg},
		{"places that go down", bools("111"), [][]int{{0, 2, 1}}, api.ErrArg},
	} {
		s, e := stick.Cut(x.notched, x.groups)
		if fails(t, "P9.12: "+x.what, e, x.e); !isZero(s) {
			t.Errorf("R4: Cut with %s: %v", x.what, s)
		}
	}
}
