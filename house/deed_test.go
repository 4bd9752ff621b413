package house_test

import (
	"math"
	"testing"

	"potence/api"
	"potence/house"
)

// idsOf returns the IDs of deeds.
func idsOf(l []api.Deed) []int {
	var ids []int
	for _, d := range l {
		ids = append(ids, d.ID)
	}
	return ids
}

func TestStanding(t *testing.T) {
	c := example()
	for _, x := range []struct {
		what  string
		l     []api.Deed
		known int
		want  []int
	}{
		{"the book on the day 0", book(), 0, []int{11, 12, 13, 14, 21, 22, 23}},
		{"the book on the day 3", book(), 3, []int{11, 12, 13, 14, 21, 22, 23}},
		{"the book on the day 4", book(), 4, []int{11, 12, 13, 21, 22, 23, 31}},
		{"nothing", nil, 0, nil},
		{"what is known later", []api.Deed{take(1, 5, 0, 0)}, 4, nil},
		{"what comes to be known", []api.Deed{take(1, 5, 0, 0)}, 5, []int{1}},
		{"what is withdrawn later", []api.Deed{take(1, 5, 0, 0), back(2, 9, 1)}, 8, []int{1}},
		{"what is withdrawn", []api.Deed{take(1, 5, 0, 0), back(2, 9, 1)}, 9, nil},
		{"what was withdrawn before it is known", []api.Deed{take(1, 5, 0, 0), back(2, 3, 1)}, 5, nil},
		{"what is withdrawn twice", []api.Deed{back(3, 4, 1), take(1, 5, 0, 0), back(2, 3, 1), take(7, 0, 0, 1)}, 5, []int{7}},
		{"a withdrawal that is withdrawn", []api.Deed{take(1, 0, 0, 0), back(2, 0, 1), back(3, 0, 2)}, 0, nil},
		{"a withdrawal of itself", []api.Deed{take(1, 0, 0, 0), back(2, 0, 2)}, 0, []int{1}},
		{"a withdrawal of nothing", []api.Deed{take(1, 0, 0, 0), back(2, 0, 1<<20)}, 0, []int{1}},
		{"a look at what has its ID as its day", []api.Deed{back(9, 0, 3), peep(4, 0, 3, 3, true)}, 0, []int{4}},
	} {
		got, e := house.Standing(c, x.l, x.known)
		is(t, "P10.2: Standing of "+x.what, idsOf(got), e, x.want)
		is(t, "P10.2: Standing of "+x.what, got, e, standingOf(x.l, 0, x.known))
	}
}

func TestHoles(t *testing.T) {
	c := example()
	l := with(book(), peep(40, 0, 35, 12, false), peep(41, 2, 0, 0, false), take(42, 0, 18, 4), take(43, 0, 3, 6), take(44, 0, 18, 6))
	for _, x := range []struct {
		from, known int
		want        []int
	}{
		{0, 0, []int{3, 5, 18, 35}}, {0, 2, []int{0, 3, 5, 18, 35}}, {1, 2, []int{3, 5, 18, 35}},
		{6, 3, []int{3, 5, 18, 35}}, {7, 3, []int{5, 18, 35}}, {7, 4, []int{5, 35}}, {6, 4, []int{3, 5, 18, 35}}, {11, 4, []int{5, 35}}, {12, 4, []int{35}}, {13, 4, nil}, {730, 730, nil},
	} {
		got, e := house.Holes(c, l, x.from, x.known)
		is(t, "P10.2: Holes", got, e, x.want)
	}
	for _, from := range []int{-1, 731, math.MinInt, math.MaxInt} {
		got, e := house.Holes(c, l, from, 0)
		failsEmpty(t, "P10.2: Holes from a day that is none", got, e, api.ErrArg)
	}
}

func TestNestOf(t *testing.T) {
	c, l := example(), book()
	for _, known := range []int{0, 4} {
		got, e := house.NestOf(c, l, 5, known)
		eggs := look(false)
		eggs[0] = span(1, 2)
		is(t, "P10.3: NestOf", got, e, api.Nest{
			Breed: c.Breed, Last: 12, Takings: []api.Taking{{ID: 13, Day: 11}},
			Peeps: []api.Peep{{ID: 11, Day: 3, Numbers: eggs}, {ID: 12, Day: 9, Numbers: look(true)}},
		})
	}
	got, e := house.NestOf(c, l, 18, 0)
	is(t, "P10.3: NestOf", got, e, api.Nest{Breed: c.Breed, Last: 12, Peeps: []api.Peep{{ID: 14, Day: 9, Numbers: look(true)}}})
	for _, hole := range []int{18, 0, 35} {
		got, e = house.NestOf(c, l, hole, 4)
		is(t, "P10.3: NestOf of what nothing is known of", got, e, api.Nest{Breed: c.Breed, Last: 12})
	}
	for _, hole := range []int{-1, 36, math.MinInt, math.MaxInt} {
		got, e = house.NestOf(c, l, hole, 0)
		failsEmpty(t, "P10.3: NestOf of no hole", got, e, api.ErrArg)
	}
	got, e = house.NestOf(great(), nil, 1919, 0)
	is(t, "P10.3: NestOf of the last hole of all", got, e, api.Nest{Breed: c.Breed, Last: 120})
}

// repeated returns so many deeds, which have IDs from one on.
func repeated(n, id int, deed func(i, id int) api.Deed) []api.Deed {
	var l []api.Deed
	for i := range n {
		l = append(l, deed(i, id+i))
	}
	return l
}

// lots of deeds that are formed, but more than something else allows.
func looksAt(n, id, hole int) []api.Deed {
	return repeated(n, id, func(_, id int) api.Deed { return peep(id, 0, hole, 3, false) })
}

func takingsFrom(n, id, hole int) []api.Deed {
	return repeated(n, id, func(i, id int) api.Deed { return take(id, 0, hole, i) })
}

func TestErrorsOfNests(t *testing.T) {
	c := example()
	more := with(takingsFrom(12, 1, 5), peep(40, 0, 6, 6, true))
	for _, x := range []struct {
		what string
		l    []api.Deed
		hole int
		e    api.Errno
	}{
		{"12 takings", more, 5, api.OK},
		{"13 takings", with(more, take(41, 0, 5, 12)), 5, api.ErrLimit},
		{"13 takings, one of another hole", with(more, take(41, 0, 6, 12)), 5, api.OK},
		{"13 takings, one withdrawn", with(more, take(41, 0, 5, 12), back(42, 0, 41)), 5, api.OK},
		{"13 takings, one known later", with(more, take(41, 1, 5, 12)), 5, api.OK},
		{"two takings of a day", with(more, take(41, 0, 5, 4)), 5, api.ErrLimit},
		{"two takings of a day", []api.Deed{take(1, 0, 5, 4), take(2, 0, 5, 4)}, 5, api.ErrTwice},
		{"two takings of a day in two holes", []api.Deed{take(1, 0, 5, 4), take(2, 0, 6, 4)}, 5, api.OK},
		{"30 looks", looksAt(30, 1, 5), 5, api.OK},
		{"31 looks", looksAt(31, 1, 5), 5, api.ErrLimit},
		{"31 looks into another hole", looksAt(31, 1, 5), 6, api.OK},
		{"a hole that is none, and 31 looks", looksAt(31, 1, 5), 36, api.ErrArg},
	} {
		n, e := house.NestOf(c, x.l, x.hole, 0)
		if e == api.OK && x.e == api.OK {
			is(t, "P10.3: NestOf of "+x.what, n, e, nestOf(c, x.l, x.hole, 0))
		} else {
			failsEmpty(t, "P10.3: NestOf of "+x.what, n, e, x.e)
		}
	}
}

func TestRollOf(t *testing.T) {
	c, l := example(), with(book(), back(40, 3, 22))
	got, e := house.RollOf(c, l, 0)
	is(t, "P10.3: RollOf", got, e, api.Roll{Moves: 5, Seen: []api.Seen{
		{ID: 21, Day: 3, Hole: 5, Rings: [4]int{1, 2}}, {ID: 22, Day: 4, Hole: 7, Rings: [4]int{1}}, {ID: 23, Day: 4, Hole: 5, Rings: [4]int{2}}}})
	got, e = house.RollOf(c, l, 3)
	is(t, "P10.3: RollOf", got, e, api.Roll{Moves: 5, Seen: []api.Seen{{ID: 21, Day: 3, Hole: 5, Rings: [4]int{1, 2}}, {ID: 23, Day: 4, Hole: 5, Rings: [4]int{2}}}})
	got, e = house.RollOf(c, nil, 0)
	is(t, "P10.3: RollOf without deeds", got, e, api.Roll{Moves: 5})
	got, e = house.RollOf(great(), []api.Deed{sight(1, 0, 0, 1000), sight(2, 1, 0, 1001)}, 0)
	is(t, "P10.3: RollOf, with the last hole that a bird can be seen at", got, e, api.Roll{Moves: 1000, Seen: []api.Seen{{ID: 1, Hole: 1000}}})
	got, e = house.RollOf(great(), []api.Deed{sight(1, 0, 0, 1000), sight(2, 1, 0, 1001)}, 1)
	failsEmpty(t, "P10.3: RollOf, with a hole beyond that", got, e, api.ErrArg)
}

func TestCodeOf(t *testing.T) {
	given := []api.Fact{{Claim: yes("toll"), Days: span(0, 9), Known: 700}}
	c := changed(func(c *api.Cote) { c.Code.Facts = given })
	l := with(book(), fact(9, 0, no("toll"), 3, 3), fact(40, 9, no("toll"), 3, 3), back(41, 5, 9))
	for _, x := range []struct {
		known int
		facts []api.Fact
	}{
		{0, []api.Fact{{Claim: no("toll"), Days: span(3, 3)}}},
		{4, []api.Fact{{Claim: no("toll"), Days: span(3, 3)}, {Claim: yes("fast"), Days: span(2, 6), Known: 4}}},
		{5, []api.Fact{{Claim: yes("fast"), Days: span(2, 6), Known: 4}}},
		{9, []api.Fact{{Claim: yes("fast"), Days: span(2, 6), Known: 4}, {Claim: no("toll"), Days: span(3, 3), Known: 9}}},
	} {
		got, e := house.CodeOf(c, l, x.known)
		is(t, "P10.3: CodeOf", got, e, api.Code{Facts: append(copyOf(given, 0), x.facts...), Rules: c.Code.Rules})
	}
	many := repeated(30, 1, func(_, id int) api.Deed { return fact(id, 0, yes("fast"), 0, 0) })
	got, e := house.CodeOf(example(), many, 0)
	is(t, "P10.3: CodeOf of 30 facts", got, e, codeOf(example(), many, 0))
	got, e = house.CodeOf(c, many, 0)
	failsEmpty(t, "P10.3: CodeOf of 31 facts", got, e, api.ErrLimit)
}

func TestLoftOf(t *testing.T) {
	c, l := example(), book()
	perches := []api.Perch{
		{ID: 1, Above: -1, Most: 5}, {ID: 2, Above: 0, Most: 3}, {ID: 3, Above: 0, Most: 3},
		{ID: 105, Above: 1, Most: 2, Worths: []int{8, 6}}, {ID: 118, Above: 2, Most: 2, Worths: []int{8, 6}},
	}
	got, e := house.LoftOf(c, l, 9, 0)
	is(t, "P10.3: LoftOf", got, e, api.Loft{Perches: perches})
	perches[3] = api.Perch{ID: 105, Above: 1}
	got, e = house.LoftOf(c, l, 12, 0)
	is(t, "P10.3: LoftOf, with a hole without squabs", got, e, api.Loft{Perches: perches})
	got, e = house.LoftOf(c, l, 11, 4)
	is(t, "P10.3: LoftOf, of a ring", got, e, api.Loft{Perches: []api.Perch{perches[0], perches[1], {ID: 105, Above: 1, Most: 2, Worths: []int{8, 6}}}})
	got, e = house.LoftOf(c, nil, 0, 0)
	is(t, "P10.3: LoftOf without deeds", got, e, api.Loft{Perches: perches[:1]})
	for _, x := range []struct {
		worths, want []int
	}{
		{nil, nil}, {[]int{-3}, []int{-3}}, {[]int{9, 9, 9}, []int{9, 9}}, {[]int{9, 8, 7, 6}, []int{9, 8}},
	} {
		c.Worths = x.worths
		perches[3] = api.Perch{ID: 105, Above: 1, Most: len(x.want), Worths: x.want}
		got, e = house.LoftOf(c, l, 9, 4)
		is(t, "P10.3: LoftOf, with other worths", got, e, api.Loft{Perches: []api.Perch{perches[0], perches[1], perches[3]}})
	}
	rings := []api.Deed{peep(1, 0, 35, 9, true), peep(2, 0, 24, 9, true), take(3, 0, 0, 12), take(4, 0, 11, 11)}
	got, e = house.LoftOf(example(), rings, 9, 0)
	is(t, "P10.3: LoftOf of the first and the last holes of rings", got, e, api.Loft{Perches: []api.Perch{
		perches[0], {ID: 2, Above: 0, Most: 3}, {ID: 4, Above: 0, Most: 3},
		{ID: 100, Above: 1}, {ID: 111, Above: 1, Most: 2, Worths: []int{8, 6}},
		{ID: 124, Above: 2, Most: 2, Worths: []int{8, 6}}, {ID: 135, Above: 2, Most: 2, Worths: []int{8, 6}},
	}})
}

// contradiction returns deeds that tell of squabs, and of none, in a hole on the same day.
func contradiction(id, hole int) []api.Deed {
	none := peep(id+1, 0, hole, 9, false)
	none.Peep.Numbers[1] = span(0, 0)
	return []api.Deed{peep(id, 0, hole, 9, true), none}
}

func TestErrorsOfLofts(t *testing.T) {
	c := example()
	spread := repeated(38, 1, func(i, id int) api.Deed { return take(id, 0, i, 0) }) // all holes of the house, and two beyond
	for _, x := range []struct {
		what string
		l    []api.Deed
		day  int
		e    api.Errno
	}{
		{"a day less than 0", book(), -1, api.ErrArg},
		{"a day behind the last one", book(), 13, api.ErrArg},
		{"a day out of range", book(), math.MaxInt, api.ErrArg},
		{"a day less than 0, and no deeds", nil, -1, api.ErrArg},
		{"a day behind the last one, and no deeds", nil, 13, api.ErrArg},
		{"a day less than 0, and two takings of a day", with(book(), take(1, 0, 5, 11)), -1, api.ErrArg},
		{"a day behind the last one, and two takings of a day", with(book(), take(1, 0, 5, 11)), 13, api.ErrArg},
		{"a day behind the last one, and a contradiction", contradiction(1, 7), 13, api.ErrArg},
		{"a contradiction", with(book(), contradiction(1, 7)...), 9, api.ErrClash},
		{"a contradiction that is withdrawn", with(book(), with(contradiction(1, 7), back(40, 0, 2))...), 9, api.OK},
		{"two takings of a day", with(book(), take(1, 0, 5, 11)), 9, api.ErrTwice},
		{"30 looks", looksAt(30, 1, 5), 9, api.ErrLimit},
		{"29 looks", looksAt(29, 1, 5), 9, api.OK},
		{"two takings of a day, then a contradiction", with(contradiction(1, 7), take(3, 0, 6, 6), take(4, 0, 6, 6)), 9, api.ErrTwice},
		{"a contradiction, then two takings of a day", with(contradiction(1, 7), take(3, 0, 8, 6), take(4, 0, 8, 6)), 9, api.ErrClash},
		{"a contradiction, then 30 looks", with(contradiction(1, 7), looksAt(30, 3, 8)...), 9, api.ErrClash},
		{"30 looks, then a contradiction", with(contradiction(1, 7), looksAt(30, 3, 6)...), 9, api.ErrLimit},
		{"as many perches as there may be", spread[:36], 9, api.OK},
	} {
		loft, e := house.LoftOf(c, x.l, x.day, 0)
		if x.e == api.OK {
			want, _ := loftOf(c, x.l, x.day, 0)
			is(t, "P10.3: LoftOf with "+x.what, loft, e, want)
		} else {
			failsEmpty(t, "P10.3: LoftOf with "+x.what, loft, e, x.e)
		}
	}
	loft, e := house.LoftOf(great(), spread, 9, 0)
	is(t, "P10.3: LoftOf of 38 holes in a ring", loft, e, api.Loft{Perches: append([]api.Perch{{ID: 1, Above: -1, Most: 500}, {ID: 2, Above: 0, Most: 500}},
		func() (l []api.Perch) {
			for i := range 38 {
				l = append(l, api.Perch{ID: 100 + i, Above: 1})
			}
			return l
		}()...)})
	for _, hole := range []int{38, 120, 1919} {
		loft, e = house.LoftOf(great(), with(spread, take(40, 0, hole, 0)), 9, 0)
		failsEmpty(t, "P10.3: LoftOf of more perches than there may be", loft, e, api.ErrLimit)
	}
	loft, e = house.LoftOf(great(), with(spread, take(39, 0, 1919, 0), peep(40, 0, 1900, 3, false)), 9, 0)
	failsEmpty(t, "P10.3: LoftOf of 40 deeds", loft, e, api.ErrLimit)
}

// TestPlainReading holds what is known against a plain reading of the chapter.
func TestPlainReading(t *testing.T) {
	d := dice(3)
	lofts := map[api.Errno]int{}
	for range 1500 {
		c := d.cote()
		l := d.deeds(c, 30)
		known, day, hole := d.roll(13), d.roll(c.Last+1), d.hole(c)
		standing, e := house.Standing(c, l, known)
		is(t, "P10.2: Standing", standing, e, standingOf(l, 0, known))
		holes, e := house.Holes(c, l, day, known)
		is(t, "P10.2: Holes", holes, e, holesOf(c, l, day, known))
		r, e := house.RollOf(c, l, known)
		is(t, "P10.3: RollOf", r, e, rollOf(c, l, known))
		code, e := house.CodeOf(c, l, known)
		is(t, "P10.3: CodeOf", code, e, codeOf(c, l, known))
		if n, e := house.NestOf(c, l, hole, known); e != api.ErrTwice {
			is(t, "P10.3: NestOf", n, e, nestOf(c, l, hole, known))
		}
		want, we := loftOf(c, l, day, known)
		if loft, e := house.LoftOf(c, l, day, known); e != we || !alike(loft, want) {
			t.Errorf("P10.3: LoftOf: %v, error %d, want %v, error %d", loft, e, want, we)
		}
		lofts[we]++
		if t.Failed() {
			t.Fatalf("of %+v, %+v", c, l)
		}
	}
	if lofts[api.OK] < 300 || lofts[api.ErrClash] < 30 || lofts[api.ErrTwice] < 5 {
		t.Error("the lofts are too much alike:", lofts)
	}
}
