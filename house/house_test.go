package house_test

import (
	"math"
	"slices"
	"testing"

	"potence/api"
	"potence/house"
)

// claims that are so, or not.
func yes(thing string) api.Claim { return api.Claim{Thing: thing} }

func no(thing string) api.Claim { return api.Claim{Thing: thing, Not: true} }

// span returns a span.
func span(lo, hi int) api.Span { return api.Span{Lo: lo, Hi: hi} }

// example returns the dovecote of the chapter's examples.
func example() api.Cote {
	return api.Cote{
		House: api.House{Columns: 12, Rings: 3, Back: 1, Fore: 2, Closed: []int{4, 5}},
		Breed: api.Breed{
			Phases:  []api.Phase{{Old: 2, Least: 2}, {Eggs: 1, Old: 2, Least: 2, Most: 2}, {Eggs: 2, Old: 2, Least: 3, Most: 4}, {Squabs: 2, Old: 2, Least: 4, Most: 6}},
			Changes: []api.Change{{From: 0, To: 1}, {From: 1, To: 2}, {From: 2, To: 3}, {From: 3, To: 0, Taken: true}},
		},
		Last: 12, Moves: 5,
		Code: api.Code{Rules: []api.Rule{
			{Name: "lord", Says: yes("take"), If: []api.Claim{yes("fast")}, Rank: 5, Days: span(0, 100), Gifts: []api.Gift{{Who: "lord", Birds: 4}}},
			{Name: "widow", Says: yes("alms"), Unless: []api.Claim{yes("take")}, Rank: 1, Days: span(0, 100), Gifts: []api.Gift{{Who: "widow", Birds: 2}}},
		}},
		Most: 5, RingsTo: 3, Worths: []int{8, 6},
	}
}

// changed returns the dovecote of the examples with some changes.
func changed(changes ...func(c *api.Cote)) api.Cote {
	c := example()
	for _, change := range changes {
		change(&c)
	}
	return c
}

// great returns a dovecote as great as one may be.
func great() api.Cote {
	c := example()
	c.House = api.House{Columns: 120, Rings: 16, Back: 119}
	c.Last, c.Moves, c.Most, c.RingsTo = 120, 1000, 500, 500
	c.Worths = []int{1000, 1000, 9, 8, 8, 0, 0, -1, -2, -3, -1000, -1000}
	return c
}

// least returns a dovecote as small as one may be.
func least() api.Cote {
	return api.Cote{House: api.House{Columns: 3, Rings: 1}, Breed: api.Breed{Phases: []api.Phase{{Least: 1}}}}
}

// look returns the numbers of a look that tells of some squabs, or of nothing.
func look(some bool) [3]api.Span {
	n := [3]api.Span{span(0, 9), span(0, 9), span(0, 9)}
	if some {
		n[1].Lo = 1
	}
	return n
}

// peep, take, sight, fact and back return deeds.
func peep(id, known, hole, day int, some bool) api.Deed {
	return api.Deed{ID: id, Known: known, Kind: api.DePeep, Hole: hole, Peep: api.Peep{Day: day, Numbers: look(some)}}
}

func take(id, known, hole, day int) api.Deed {
	return api.Deed{ID: id, Known: known, Kind: api.DeTake, Hole: hole, Day: day}
}

func sight(id, known, day, hole int, rings ...int) api.Deed {
	d := api.Deed{ID: id, Known: known, Kind: api.DeSeen, Seen: api.Seen{Day: day, Hole: hole}}
	copy(d.Seen.Rings[:], rings)
	return d
}

func fact(id, known int, claim api.Claim, lo, hi int) api.Deed {
	return api.Deed{ID: id, Known: known, Kind: api.DeFact, Claim: claim, Days: span(lo, hi)}
}

func back(id, known, ref int) api.Deed {
	return api.Deed{ID: id, Known: known, Kind: api.DeBack, Ref: ref}
}

// book returns the deeds of the examples, in another order.
func book() []api.Deed {
	eggs := peep(11, 0, 5, 3, false)
	eggs.Peep.Numbers[0] = span(1, 2)
	return []api.Deed{
		back(32, 4, 14), peep(12, 0, 5, 9, true), eggs, take(13, 0, 5, 11), peep(14, 0, 18, 9, true),
		sight(23, 0, 4, 5, 2), sight(21, 0, 3, 5, 1, 2), sight(22, 0, 4, 7, 1), fact(31, 4, yes("fast"), 2, 6),
	}
}

// with returns deeds, in new memory, with further ones behind them.
func with(l []api.Deed, more ...api.Deed) []api.Deed { return slices.Concat(l, more) }

// fails reports a promise whose error is not the one that is wanted.
func fails(t *testing.T, what string, got, want api.Errno) {
	t.Helper()
	if got != want {
		t.Errorf("%s: got error %d, want %d", what, got, want)
	}
}

// is reports a promise whose result is not the one that is wanted.
func is[T any](t *testing.T, what string, got T, e api.Errno, want T) {
	t.Helper()
	if e != api.OK || !alike(got, want) {
		t.Errorf("%s: got %v, error %d, want %v", what, got, e, want)
	}
}

// failsEmpty reports a promise that does not return just an error.
func failsEmpty[T any](t *testing.T, what string, got T, e, want api.Errno) {
	t.Helper()
	if e != want || !isNothing(got) {
		t.Errorf("%s: got %v, error %d, want %d", what, got, e, want)
	}
}

// wrong is a dovecote that is not right, and its first error.
type wrong struct {
	what string
	c    api.Cote
	e    api.Errno
}

// faults are changes that make a dovecote wrong, in the order in which they are looked for, those of one kind side by side, with the error.
func faults() [][]wrongly {
	worths := func(l ...int) func(c *api.Cote) { return func(c *api.Cote) { c.Worths = l } }
	return [][]wrongly{
		{
			{"2 columns", func(c *api.Cote) { c.House.Columns = 2 }, api.ErrArg},
			{"121 closed stands", func(c *api.Cote) { c.House.Closed = make([]int, 121) }, api.ErrLimit},
			{"closed stands that fall", func(c *api.Cote) { c.House.Closed = []int{1, 0} }, api.ErrArg},
		},
		{
			{"9 phases", func(c *api.Cote) { c.Breed.Phases = slices.Repeat(c.Breed.Phases, 3)[:9] }, api.ErrLimit},
			{"21 changes", func(c *api.Cote) { c.Breed.Changes = make([]api.Change, 21) }, api.ErrLimit},
			{"no phase", func(c *api.Cote) { c.Breed = api.Breed{} }, api.ErrArg},
			{"a last day less than 0", func(c *api.Cote) { c.Last = -1 }, api.ErrArg},
			{"a last day of 121", func(c *api.Cote) { c.Last = 121 }, api.ErrArg},
		},
		{
			{"moves less than 0", func(c *api.Cote) { c.Moves = -1 }, api.ErrArg},
			{"moves of 1001", func(c *api.Cote) { c.Moves = 1001 }, api.ErrArg},
		},
		{
			{"31 rules", func(c *api.Cote) { c.Code.Rules = make([]api.Rule, 31) }, api.ErrLimit},
			{"31 facts", func(c *api.Cote) { c.Code.Facts = make([]api.Fact, 31) }, api.ErrLimit},
			{"a fact about nothing", func(c *api.Cote) { c.Code.Facts = make([]api.Fact, 1) }, api.ErrForm},
			{"two rules of one name", func(c *api.Cote) { c.Code.Rules[1].Name = "lord" }, api.ErrTwice},
		},
		{
			{"a most less than 0", func(c *api.Cote) { c.Most = -1 }, api.ErrArg},
			{"a most of 501", func(c *api.Cote) { c.Most = 501 }, api.ErrArg},
			{"the greatest most", func(c *api.Cote) { c.Most = math.MaxInt }, api.ErrArg},
			{"a ring to less than 0", func(c *api.Cote) { c.RingsTo = -1 }, api.ErrArg},
			{"a ring to 501", func(c *api.Cote) { c.RingsTo = 501 }, api.ErrArg},
			{"a ring to less than all", func(c *api.Cote) { c.RingsTo = math.MinInt }, api.ErrArg},
			{"13 worths", worths(make([]int, 13)...), api.ErrArg},
			{"a worth of 1001", worths(1001), api.ErrArg},
			{"a worth of -1001", worths(3, -1001), api.ErrArg},
			{"worths that rise", worths(3, 1, 2), api.ErrArg},
			{"worths that rise first", worths(-4, -3), api.ErrArg},
			{"worths out of range", worths(math.MaxInt, math.MinInt), api.ErrArg},
		},
	}
}

// wrongly is a change that makes a dovecote wrong.
type wrongly struct {
	what   string
	change func(c *api.Cote)
	e      api.Errno
}

// wrongCotes returns dovecotes that are not right: each with one fault, or with two of different kinds.
func wrongCotes() []wrong {
	var all []wrong
	kinds := faults()
	for i, kind := range kinds {
		for _, x := range kind {
			all = append(all, wrong{x.what, changed(x.change), x.e})
			for _, later := range kinds[i+1:] {
				for _, y := range later {
					all = append(all, wrong{x.what + ", and " + y.what, changed(y.change, x.change), x.e})
				}
			}
		}
	}
	return all
}

// rightCotes returns dovecotes that are right.
func rightCotes() []api.Cote {
	d := dice(1)
	all := []api.Cote{example(), great(), least(),
		changed(func(c *api.Cote) { c.Worths = nil }), changed(func(c *api.Cote) { c.Worths = []int{-1000, -1000} }),
		changed(func(c *api.Cote) { c.Most, c.RingsTo = 0, 500 }), changed(func(c *api.Cote) { c.Most, c.RingsTo = 500, 0 })}
	for range 30 {
		all = append(all, d.cote())
	}
	return all
}

func TestCheckCote(t *testing.T) {
	for i, c := range rightCotes() {
		if e := house.CheckCote(c); e != api.OK {
			t.Errorf("P10.1: the right dovecote %d: error %d", i, e)
		}
	}
	for _, x := range wrongCotes() {
		fails(t, "P10.1: "+x.what, house.CheckCote(x.c), x.e)
	}
}

// lot is deeds that are not right, and their first error.
type lot struct {
	what  string
	deeds []api.Deed
	e     api.Errno
}

// wrongLots returns deeds that are not right.
func wrongLots() []lot {
	var many []api.Deed
	for i := range 41 {
		many = append(many, sight(i+1, 0, i%13, 2))
	}
	unformed := api.Deed{ID: 7}
	return []lot{
		{"41 deeds", many, api.ErrLimit},
		{"41 deeds that are none", make([]api.Deed, 41), api.ErrLimit},
		{"40 deeds that are none", make([]api.Deed, 40), api.ErrForm},
		{"a deed that is none", with(book(), unformed), api.ErrForm},
		{"an ID twice", with(book(), take(13, 0, 3, 3)), api.ErrTwice},
		{"a deed twice", with(book(), book()[0]), api.ErrTwice},
		{"an ID twice in a row", []api.Deed{back(1, 0, 1), back(1, 9, 2)}, api.ErrTwice},
		{"an ID twice of what is withdrawn", with(book(), peep(14, 5, 18, 9, true)), api.ErrTwice},
		{"an ID twice, in a deed that is none", with(book(), take(13, 0, 3, 13)), api.ErrForm},
		{"an ID twice, then a deed that is none", with(book(), take(13, 0, 3, 3), unformed), api.ErrTwice},
		{"a deed that is none, then an ID twice", with(book(), unformed, take(13, 0, 3, 3)), api.ErrForm},
	}
}

func TestCheckDeeds(t *testing.T) {
	fails(t, "P10.1: no deeds", house.CheckDeeds(example(), nil), api.OK)
	fails(t, "P10.1: the deeds of the examples", house.CheckDeeds(example(), book()), api.OK)
	fails(t, "P10.1: 40 deeds", house.CheckDeeds(example(), wrongLots()[0].deeds[:40]), api.OK)
	for _, x := range wrongLots() {
		fails(t, "P10.1: "+x.what, house.CheckDeeds(example(), x.deeds), x.e)
	}
}

// manyDeeds returns deeds of each kind of a dovecote, formed and not.
func manyDeeds(c api.Cote) []api.Deed {
	last := c.House.Columns*c.House.Rings - 1
	all := []api.Deed{{}, {ID: 5}, {ID: 5, Kind: 6},
		peep(1, 0, 0, 0, false), peep(1<<20, 730, last, c.Last, true), take(1<<20, 730, last, c.Last),
		sight(1<<20, 730, c.Last, last, 9, 9, 9, 9), fact(1<<20, 730, no("aaaabbbbccccddddeeeeffff"), 730, 730), back(1<<20, 730, 1<<20), back(3, 3, 3)}
	all = append(all, book()...)
	for _, d := range slices.Clone(all) {
		all = append(all, changes(d, true)...)
	}
	for _, name := range names {
		all = append(all, fact(3, 0, no(name), 0, 1))
	}
	return all
}

func TestFormedDeeds(t *testing.T) {
	kinds := map[bool]int{}
	for _, c := range []api.Cote{example(), great(), least()} {
		for _, d := range manyDeeds(c) {
			want := api.ErrForm
			if isDeed(c, d) {
				want = api.OK
			}
			fails(t, "P10.1: CheckDeeds", house.CheckDeeds(c, []api.Deed{d}), want)
			if t.Failed() {
				t.Fatalf("P10.1: the deed is %+v", d)
			}
			kinds[want == api.OK]++
		}
	}
	if kinds[true] < 1000 || kinds[false] < 10000 {
		t.Error("the deeds are too much alike:", kinds)
	}
}

// call is a function with deeds: its results but for the error, as a list.
type call struct {
	name string
	do   func(c api.Cote, l []api.Deed) (some, api.Errno)
	act  api.Act // what is asked, if it is Answer
}

// calls returns all functions with deeds, but for CheckReply: with a day of knowing, and a hole, a day or a number of birds.
func calls(known, n int) []call {
	all := []call{
		{name: "Standing", do: func(c api.Cote, l []api.Deed) (some, api.Errno) { return wrap(house.Standing(c, l, known)) }},
		{name: "Holes", do: func(c api.Cote, l []api.Deed) (some, api.Errno) { return wrap(house.Holes(c, l, n, known)) }},
		{name: "NestOf", do: func(c api.Cote, l []api.Deed) (some, api.Errno) { return wrap(house.NestOf(c, l, n, known)) }},
		{name: "RollOf", do: func(c api.Cote, l []api.Deed) (some, api.Errno) { return wrap(house.RollOf(c, l, known)) }},
		{name: "CodeOf", do: func(c api.Cote, l []api.Deed) (some, api.Errno) { return wrap(house.CodeOf(c, l, known)) }},
		{name: "LoftOf", do: func(c api.Cote, l []api.Deed) (some, api.Errno) { return wrap(house.LoftOf(c, l, n, known)) }},
	}
	for _, q := range questions(known, n) {
		all = append(all, call{name: "Answer", act: q, do: func(c api.Cote, l []api.Deed) (some, api.Errno) {
			t := house.Answer(c, l, q)
			e := t.Err
			t.Err = api.OK
			return wrap(t, e)
		}})
	}
	return all
}

// wrap returns a result as something that can be held against others.
func wrap[T any](x T, e api.Errno) (some, api.Errno) { return result[T]{x}, e }

// result is a result of some type.
type result[T any] struct{ X T }

func (r result[T]) isNothing() bool { return isNothing(r.X) }

func (r result[T]) isSame(other some) bool { return alike(r, other.(result[T])) }

func (r result[T]) spoil() { spoil(r.X) }

// some is what is asked of results of any type.
type some interface {
	isNothing() bool
	isSame(other some) bool
	spoil()
	shares() (int, bool)
}

// questions returns a question of each kind.
func questions(known, n int) []api.Act {
	return []api.Act{
		{Kind: api.AcRound, A: n, Known: known},
		{Kind: api.AcNest, A: n, B: 1, C: n, Known: known},
		{Kind: api.AcClash, A: n, Known: known},
		{Kind: api.AcBirds, Known: known},
		{Kind: api.AcRight, A: n, Claim: yes("alms"), Known: known},
		{Kind: api.AcTaking, A: n, B: n, Known: known},
		{Kind: api.AcDue, A: n, B: n, Known: known},
	}
}

// failsAt reports a function with deeds that does not return just an error.
func failsAt(t *testing.T, promise, what string, x call, c api.Cote, l []api.Deed, want api.Errno) {
	t.Helper()
	got, e := x.do(c, l)
	if e != want || !got.isNothing() {
		t.Errorf("%s: %s of %s: %v, error %d, want %d", promise, x.name, what, got, e, want)
	}
}

func TestFirstErrors(t *testing.T) {
	for _, n := range []int{0, 5, -1, math.MinInt, math.MaxInt} {
		for _, known := range []int{0, 731, -1, math.MinInt, math.MaxInt} {
			for _, x := range calls(known, n) {
				if x.name == "Answer" && !isAct(x.act) {
					failsAt(t, "P10.7, R3, R4", "what is no question, of deeds that are none", x, example(), wrongLots()[0].deeds, api.ErrForm)
					continue
				}
				for _, y := range wrongCotes() {
					failsAt(t, "P10.1, R3, R4", y.what, x, y.c, book(), y.e)
				}
				failsAt(t, "P10.1, R3, R4", "a wrong dovecote and deeds", x, wrongCotes()[0].c, wrongLots()[0].deeds, wrongCotes()[0].e)
				for _, y := range wrongLots() {
					failsAt(t, "P10.1, R3, R4", y.what, x, example(), y.deeds, y.e)
				}
			}
		}
	}
	q, told := questions(0, 5)[1], house.Answer(example(), book(), questions(0, 5)[1])
	for _, y := range wrongCotes() {
		fails(t, "P10.1, R3: CheckReply of "+y.what, house.CheckReply(y.c, wrongLots()[0].deeds, q, told), y.e)
	}
	for _, y := range wrongLots() {
		fails(t, "P10.1, R3: CheckReply of "+y.what, house.CheckReply(example(), y.deeds, q, told), y.e)
		fails(t, "P10.1, R3: CheckReply of no question, of "+y.what, house.CheckReply(example(), y.deeds, api.Act{}, told), y.e)
	}
}

func TestErrorsOfKnown(t *testing.T) {
	for _, known := range []int{-1, 731, math.MinInt, math.MaxInt} {
		for _, n := range []int{0, 5, -1, 13, math.MaxInt} {
			for _, x := range calls(known, n) {
				want := api.ErrArg
				if x.name == "Answer" {
					want = api.ErrForm
				}
				failsAt(t, "P10.1, R4", "a day of knowing that is none", x, example(), book(), want)
			}
		}
	}
	for _, x := range calls(730, 0) {
		if _, e := x.do(example(), book()); e != api.OK {
			t.Errorf("P10.1: %s, as known on the last day of all: error %d", x.name, e)
		}
	}
}

// inputs returns dovecotes with deeds.
func inputs() ([]api.Cote, [][]api.Deed) {
	d := dice(2)
	cotes, lots := []api.Cote{example(), example(), great()}, [][]api.Deed{nil, book(), book()}
	for range 60 {
		c := d.cote()
		cotes, lots = append(cotes, c), append(lots, d.deeds(c, 25))
	}
	return cotes, lots
}

// TestNothingChanges holds dovecotes and deeds, with what lies behind their lists, against what they were before a call.
func TestNothingChanges(t *testing.T) {
	cotes, lots := inputs()
	for i := range cotes {
		c, l := copyOf(cotes[i], 2), copyOf(lots[i], 2)
		wholeC, wholeL := wholeOf(c), wholeOf(l)
		for _, x := range calls(7, 4) {
			first, e := x.do(c, l)
			if !alike(wholeOf(c), wholeC) || !alike(wholeOf(l), wholeL) {
				t.Fatalf("R6: %s changes %v, %v", x.name, wholeC, wholeL)
			}
			first.spoil()
			second, f := x.do(c, l)
			third, g := x.do(cotes[i], lots[i])
			if e != f || f != g || !second.isSame(third) || !alike(wholeOf(c), wholeC) {
				t.Fatalf("R6, R7: %s: %v, and %v of the same, errors %d, %d and %d", x.name, second, third, e, f, g)
			}
		}
		told := house.Answer(c, l, questions(7, 4)[1])
		whole := wholeOf(told)
		house.CheckReply(c, l, questions(7, 4)[1], told)
		if !alike(wholeOf(told), whole) || !alike(wholeOf(c), wholeC) || !alike(wholeOf(l), wholeL) {
			t.Fatal("R6: CheckReply changes", wholeC, wholeL, told)
		}
	}
}

// TestNothingIsShared writes into each list of a result, and appends to it, and looks for what has been written in its other lists.
func TestNothingIsShared(t *testing.T) {
	cotes, lots := inputs()
	for i := range cotes {
		for _, x := range calls(7, 4) {
			got, _ := x.do(cotes[i], lots[i])
			if at, shared := got.shares(); shared {
				t.Fatalf("R6: %s: the list %d of a result shares memory: %v", x.name, at, got)
			}
		}
	}
}
