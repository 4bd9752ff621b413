package round_test

import (
	"math"
	"slices"
	"testing"

	"potence/api"
	"potence/round"
)

// example returns the house of the chapter's examples, and its holes.
func example() (api.House, []int) {
	return api.House{Columns: 12, Rings: 3, Back: 1, Fore: 2, Closed: []int{4, 5}}, []int{2, 5, 18, 21, 22, 35}
}

// same reports a promise whose result is not what is wanted, or comes with an error.
func same(t *testing.T, what string, got []int, e api.Errno, want ...int) {
	t.Helper()
	if e != api.OK || !slices.Equal(got, want) {
		t.Errorf("%s: got %v, error %d; want %v", what, got, e, want)
	}
}

// fails reports a promise whose error is not the one that is wanted.
func fails(t *testing.T, what string, got, want api.Errno) {
	t.Helper()
	if got != want {
		t.Errorf("%s: got error %d, want %d", what, got, want)
	}
}

// empty reports a list that should have come with an error and is not empty.
func empty(t *testing.T, what string, list []int) {
	t.Helper()
	if len(list) != 0 {
		t.Errorf("%s: %v beside an error", what, list)
	}
}

// upTo returns the numbers from 0 to n - 1.
func upTo(n int) []int {
	list := make([]int, n)
	for i := range list {
		list[i] = i
	}
	return list
}

func TestCheck(t *testing.T) {
	for _, x := range []struct {
		h api.House
		e api.Errno
	}{
		{api.House{Columns: 3, Rings: 1}, api.OK},
		{api.House{Columns: 3, Rings: 1, Back: 2}, api.OK},
		{api.House{Columns: 3, Rings: 1, Fore: 2}, api.OK},
		{api.House{Columns: 3, Rings: 1, Back: 1, Fore: 1}, api.OK},
		{api.House{Columns: 120, Rings: 16, Back: 60, Fore: 59, Closed: upTo(120)}, api.OK},
		{api.House{Columns: 12, Rings: 3, Closed: []int{0, 11}}, api.OK},
		{api.House{}, api.ErrArg},
		{api.House{Columns: 2, Rings: 1}, api.ErrArg},
		{api.House{Columns: -3, Rings: 1}, api.ErrArg},
		{api.House{Columns: 121, Rings: 1}, api.ErrArg},
		{api.House{Columns: 12}, api.ErrArg},
		{api.House{Columns: 12, Rings: 17}, api.ErrArg},
		{api.House{Columns: 12, Rings: -1}, api.ErrArg},
		{api.House{Columns: 12, Rings: 1, Back: -1}, api.ErrArg},
		{api.House{Columns: 12, Rings: 1, Fore: -1}, api.ErrArg},
		{api.House{Columns: 12, Rings: 1, Back: -1, Fore: 2}, api.ErrArg},
		{api.House{Columns: 12, Rings: 1, Back: 2, Fore: -1}, api.ErrArg},
		{api.House{Columns: 12, Rings: 1, Back: 6, Fore: 6}, api.ErrArg},
		{api.House{Columns: 12, Rings: 1, Back: 12}, api.ErrArg},
		{api.House{Columns: 12, Rings: 1, Fore: 12}, api.ErrArg},
		{api.House{Columns: 12, Rings: 1, Back: math.MaxInt, Fore: math.MaxInt}, api.ErrArg},
		{api.House{Columns: 12, Rings: 1, Back: 1, Fore: math.MaxInt}, api.ErrArg},
		{api.House{Columns: 12, Rings: 1, Back: math.MinInt, Fore: math.MinInt}, api.ErrArg},
		{api.House{Columns: 12, Rings: 1, Closed: upTo(121)}, api.ErrLimit},
		{api.House{Columns: 12, Rings: 1, Closed: make([]int, 120)}, api.ErrArg},
		{api.House{Columns: 12, Rings: 1, Closed: []int{12}}, api.ErrArg},
		{api.House{Columns: 12, Rings: 1, Closed: []int{-1, 3}}, api.ErrArg},
		{api.House{Columns: 12, Rings: 1, Closed: []int{3, 3}}, api.ErrArg},
		{api.House{Columns: 12, Rings: 1, Closed: []int{5, 4}}, api.ErrArg},
		{api.House{Columns: 12, Rings: 0, Closed: upTo(121)}, api.ErrArg},
		{api.House{Columns: 12, Rings: 1, Back: 12, Closed: upTo(121)}, api.ErrArg},
	} {
		if e := round.Check(x.h); e != x.e {
			t.Errorf("P1.1: house %+v: got %d, want %d", x.h, e, x.e)
		}
	}
}

func TestColumnAndRing(t *testing.T) {
	h, holes := example()
	for hole := range 36 {
		c, e := round.Column(h, hole)
		r, f := round.Ring(h, hole)
		if e != api.OK || f != api.OK || c != hole%12 || r != hole/12 {
			t.Errorf("P1.2: hole %d: column %d, ring %d, errors %d %d", hole, c, r, e, f)
		}
	}
	for _, hole := range []int{-1, 36, math.MaxInt, math.MinInt} {
		c, e := round.Column(h, hole)
		r, f := round.Ring(h, hole)
		if e != api.ErrArg || f != api.ErrArg || c != 0 || r != 0 {
			t.Errorf("P1.2: hole %d: column %d, ring %d, errors %d %d", hole, c, r, e, f)
		}
	}
	x, e := round.Columns(h, holes)
	same(t, "P1.2: columns of the example", x, e, 2, 5, 6, 9, 10, 11)
	x, e = round.Columns(h, []int{35, 0, 12, 24, 0, 3, 14})
	same(t, "P1.2: columns in any order", x, e, 0, 2, 3, 11)
	x, e = round.Columns(h, nil)
	same(t, "P1.2: columns of no holes", x, e)
	x, e = round.Columns(h, make([]int, 200))
	same(t, "P1.2: columns of 200 holes", x, e, 0)
}

func TestReaches(t *testing.T) {
	h, _ := example()
	for _, x := range []struct {
		stand int
		want  []int
	}{{11, []int{10, 11, 0, 1}}, {0, []int{11, 0, 1, 2}}, {4, []int{3, 4, 5, 6}}, {10, []int{9, 10, 11, 0}}} {
		got, e := round.Reaches(h, x.stand)
		same(t, "P1.3: reaches", got, e, x.want...)
	}
	got, e := round.Reaches(api.House{Columns: 3, Rings: 1, Back: 2}, 0)
	same(t, "P1.3: reaches of a whole circle", got, e, 1, 2, 0)
	got, e = round.Reaches(api.House{Columns: 3, Rings: 1}, 1)
	same(t, "P1.3: reaches of no reach", got, e, 1)
}

func TestStands(t *testing.T) {
	h, _ := example()
	for _, x := range []struct {
		column int
		want   []int
	}{{5, []int{3, 6}}, {6, []int{6, 7}}, {0, []int{0, 1, 10, 11}}, {11, []int{0, 9, 10, 11}}, {3, []int{1, 2, 3}}} {
		got, e := round.Stands(h, x.column)
		same(t, "P1.3: stands", got, e, x.want...)
	}
	got, e := round.Stands(api.House{Columns: 5, Rings: 1, Fore: 1, Closed: []int{2, 3}}, 3)
	same(t, "P1.3: stands of a column that none reaches", got, e)
}

func TestLeft(t *testing.T) {
	h, holes := example()
	for _, x := range []struct{ stands, want []int }{
		{nil, []int{2, 5, 6, 9, 10, 11}},
		{[]int{6, 10}, []int{2}},
		{[]int{1, 6, 9}, nil},
		{[]int{0, 11}, []int{5, 6, 9}},
	} {
		got, e := round.Left(h, holes, x.stands)
		same(t, "P1.3: left", got, e, x.want...)
	}
	got, e := round.Left(h, nil, []int{0})
	same(t, "P1.3: left of no holes", got, e)
}

func TestClose(t *testing.T) {
	h, _ := example()
	g, e := round.Close(h, []int{7, 6, 4, 6, 0})
	same(t, "P1.8: closed, too", g.Closed, e, 0, 4, 5, 6, 7)
	if g.Columns != 12 || g.Rings != 3 || g.Back != 1 || g.Fore != 2 {
		t.Errorf("P1.8: closing changes the house: %+v", g)
	}
	g, e = round.Close(h, nil)
	same(t, "P1.8: none closed, too", g.Closed, e, 4, 5)
	g, e = round.Close(h, append(upTo(12), make([]int, 188)...))
	same(t, "P1.8: all closed", g.Closed, e, upTo(12)...)
	if e := round.Check(g); e != api.OK {
		t.Error("P1.8: a closed house is wrong:", e)
	}
	for _, x := range []struct {
		stands []int
		e      api.Errno
	}{{make([]int, 201), api.ErrLimit}, {append(make([]int, 200), -1), api.ErrLimit}, {[]int{3, 12}, api.ErrArg}, {[]int{-1}, api.ErrArg}} {
		g, e := round.Close(h, x.stands)
		fails(t, "P1.8: close", e, x.e)
		if g.Columns != 0 || g.Rings != 0 || g.Back != 0 || g.Fore != 0 || len(g.Closed) != 0 {
			t.Errorf("P1.8: %+v beside an error", g)
		}
	}
}

func TestTurned(t *testing.T) {
	h, _ := example()
	for _, x := range []struct {
		by   int
		want []int
	}{{0, []int{4, 5}}, {1, []int{5, 6}}, {-5, []int{0, 11}}, {7, []int{0, 11}}, {12, []int{4, 5}}, {120, []int{4, 5}}, {-120, []int{4, 5}}, {-119, []int{5, 6}}} {
		g, e := round.Turned(h, x.by)
		same(t, "P1.8: turned", g.Closed, e, x.want...)
		if g.Columns != 12 || g.Rings != 3 || g.Back != 1 || g.Fore != 2 {
			t.Errorf("P1.8: turning changes the house: %+v", g)
		}
	}
	for _, by := range []int{-121, 121, math.MaxInt, math.MinInt} {
		g, e := round.Turned(h, by)
		fails(t, "P1.8: turned", e, api.ErrArg)
		if g.Columns != 0 || g.Rings != 0 || g.Back != 0 || g.Fore != 0 || len(g.Closed) != 0 {
			t.Errorf("P1.8: %+v beside an error", g)
		}
	}
}

// call is a call of each function with a house, with holes or stands or both; it tells the error and whether all else is zero.
type call struct {
	name          string
	holes, stands bool
	do            func(h api.House, at int, holes, stands []int) (zero bool, e api.Errno)
}

// list makes what calls a function that returns a list.
func list(x []int, e api.Errno) (bool, api.Errno) { return len(x) == 0, e }

// number makes what calls a function that returns a number.
func number(x int, e api.Errno) (bool, api.Errno) { return x == 0, e }

// house makes what calls a function that returns a house.
func house(h api.House, e api.Errno) (bool, api.Errno) {
	return h.Columns == 0 && h.Rings == 0 && h.Back == 0 && h.Fore == 0 && len(h.Closed) == 0, e
}

func calls() []call {
	return []call{
		{"Column", false, false, func(h api.House, at int, _, _ []int) (bool, api.Errno) { return number(round.Column(h, at)) }},
		{"Ring", false, false, func(h api.House, at int, _, _ []int) (bool, api.Errno) { return number(round.Ring(h, at)) }},
		{"Columns", true, false, func(h api.House, _ int, l, _ []int) (bool, api.Errno) { return list(round.Columns(h, l)) }},
		{"Reaches", false, false, func(h api.House, at int, _, _ []int) (bool, api.Errno) { return list(round.Reaches(h, at)) }},
		{"Stands", false, false, func(h api.House, at int, _, _ []int) (bool, api.Errno) { return list(round.Stands(h, at)) }},
		{"Left", true, true, func(h api.House, _ int, l, s []int) (bool, api.Errno) { return list(round.Left(h, l, s)) }},
		{"Fewest", true, false, func(h api.House, _ int, l, _ []int) (bool, api.Errno) {
			r, e := round.Fewest(h, l)
			return len(r.Stands) == 0 && len(r.Cuts) == 0, e
		}},
		{"CheckFewest", true, false, func(h api.House, _ int, l, _ []int) (bool, api.Errno) {
			return true, round.CheckFewest(h, l, api.Round{Stands: make([]int, 201)})
		}},
		{"Count", true, false, func(h api.House, _ int, l, _ []int) (bool, api.Errno) { return number(round.Count(h, l)) }},
		{"Needed", true, false, func(h api.House, _ int, l, _ []int) (bool, api.Errno) { return list(round.Needed(h, l)) }},
		{"Useful", true, false, func(h api.House, _ int, l, _ []int) (bool, api.Errno) { return list(round.Useful(h, l)) }},
		{"Saves", true, false, func(h api.House, _ int, l, _ []int) (bool, api.Errno) { return list(round.Saves(h, l)) }},
		{"Gaps", false, true, func(h api.House, _ int, _, s []int) (bool, api.Errno) { return list(round.Gaps(h, s)) }},
		{"Turn", false, true, func(h api.House, at int, _, s []int) (bool, api.Errno) {
			x, e := round.Turn(h, at, s)
			return len(x.Turns) == 0 && x.Length == 0, e
		}},
		{"CheckTurn", false, true, func(h api.House, at int, _, s []int) (bool, api.Errno) {
			return true, round.CheckTurn(h, at, s, api.Turning{Turns: make([]int, 41)})
		}},
		{"Close", false, false, func(h api.House, _ int, _, s []int) (bool, api.Errno) { return house(round.Close(h, s)) }},
		{"Turned", false, false, func(h api.House, at int, _, _ []int) (bool, api.Errno) { return house(round.Turned(h, at)) }},
	}
}

func TestErrorsOfHouses(t *testing.T) {
	h, _ := example()
	bad := h
	bad.Columns = 2
	many := h
	many.Closed = make([]int, 121)
	for _, c := range calls() {
		// Everything else is wrong, too: what is wrong of the house goes first.
		if zero, e := c.do(bad, -1, make([]int, 201), []int{99}); e != api.ErrArg || !zero {
			t.Errorf("P1.1: %s of a wrong house: error %d, zero %v", c.name, e, zero)
		}
		if zero, e := c.do(many, -1, []int{-1}, []int{99}); e != api.ErrLimit || !zero {
			t.Errorf("P1.1: %s of a house with too many closed stands: error %d, zero %v", c.name, e, zero)
		}
	}
}

func TestErrorsOfHoles(t *testing.T) {
	h, _ := example()
	all, e := round.Close(h, upTo(12))
	fails(t, "P1.8: close all", e, api.OK)
	for _, c := range calls() {
		if !c.holes {
			continue
		}
		for _, g := range []api.House{h, all} {
			for _, x := range []struct {
				holes []int
				e     api.Errno
			}{{append(make([]int, 200), -1), api.ErrLimit}, {[]int{3, 36}, api.ErrArg}, {[]int{-1}, api.ErrArg}, {[]int{math.MinInt}, api.ErrArg}} {
				if zero, e := c.do(g, 0, x.holes, []int{99}); e != x.e || !zero {
					t.Errorf("P1.2 to P1.5: %s of wrong holes: error %d, want %d, zero %v", c.name, e, x.e, zero)
				}
			}
		}
	}
}

func TestErrorsOfStands(t *testing.T) {
	h, _ := example()
	for _, c := range calls() {
		if !c.stands {
			continue
		}
		for _, x := range []struct {
			stands []int
			e      api.Errno
		}{
			{make([]int, 201), api.ErrLimit},
			{make([]int, 200), api.ErrArg},
			{[]int{4}, api.ErrArg},
			{[]int{2, 5}, api.ErrArg},
			{[]int{3, 2}, api.ErrArg},
			{[]int{3, 3}, api.ErrArg},
			{[]int{-1}, api.ErrArg},
			{[]int{12}, api.ErrArg},
			{[]int{0, math.MaxInt}, api.ErrArg},
		} {
			if zero, e := c.do(h, 0, []int{2}, x.stands); e != x.e || !zero {
				t.Errorf("P1.3, P1.6, P1.7: %s of wrong stands: error %d, want %d, zero %v", c.name, e, x.e, zero)
			}
		}
	}
}

func TestErrorsOfColumns(t *testing.T) {
	h, _ := example()
	for _, c := range calls() {
		if !slices.Contains([]string{"Reaches", "Stands", "Turn", "CheckTurn"}, c.name) {
			continue
		}
		for _, at := range []int{-1, 12, math.MaxInt, math.MinInt} {
			// That there are too many stands is said only of a column.
			if zero, e := c.do(h, at, nil, make([]int, 201)); e != api.ErrArg || !zero {
				t.Errorf("P1.3, P1.7: %s at %d: error %d, zero %v", c.name, at, e, zero)
			}
		}
	}
}

// roomy returns a copy of a list with room behind its end, and the whole of its memory.
func roomy(l []int) (part, whole []int) {
	whole = append(slices.Clone(l), 77, 77, 77, 77)
	return whole[:len(l)], whole
}

func TestMemory(t *testing.T) {
	h, holes := example()
	stands := []int{1, 6, 9}
	closed, wholeClosed := roomy(h.Closed)
	l, wholeHoles := roomy(holes)
	s, wholeStands := roomy(stands)
	h.Closed = closed
	for _, c := range calls() {
		c.do(h, 1, l, s)
		if !slices.Equal(wholeClosed, []int{4, 5, 77, 77, 77, 77}) || !slices.Equal(wholeHoles[:len(holes)], holes) || !slices.Equal(wholeStands, []int{1, 6, 9, 77, 77, 77, 77}) {
			t.Fatalf("R6: %s changes an argument", c.name)
		}
	}
	if wholeHoles[len(holes)] != 77 {
		t.Error("R6: what lies behind the holes is touched")
	}
	for _, g := range func() []api.House {
		a, _ := round.Close(h, nil)
		b, _ := round.Turned(h, 0)
		return []api.House{a, b}
	}() {
		g.Closed[0] = 3
		if h.Closed[0] != 4 {
			t.Error("P1.8: a house shares its closed stands with another one")
		}
	}
}
