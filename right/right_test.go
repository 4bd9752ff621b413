package right_test

import (
	"math"
	"reflect"
	"slices"
	"strings"
	"testing"

	"potence/api"
	"potence/right"
)

// span returns a span.
func span(lo, hi int) api.Span { return api.Span{Lo: lo, Hi: hi} }

// yes and no return the claims that a thing is so, and that it is not.
func yes(thing string) api.Claim { return api.Claim{Thing: thing} }

func no(thing string) api.Claim { return api.Claim{Thing: thing, Not: true} }

// example returns the code of the chapter's examples.
func example() api.Code {
	all, fast := span(0, 100), []api.Claim{yes("fast")}
	return api.Code{
		Facts: []api.Fact{
			{Claim: yes("fast"), Days: span(40, 46), Known: 0},
			{Claim: yes("dearth"), Days: span(43, 50), Known: 44},
		},
		Rules: []api.Rule{
			{Name: "lord", Says: yes("take"), If: fast, Rank: 5, Days: all, Gifts: []api.Gift{{Who: "lord", Birds: 4}}},
			{Name: "parson", Says: no("take"), If: []api.Claim{yes("fast"), yes("dearth")}, Rank: 7, Days: all, Gifts: []api.Gift{{Who: "poor", Birds: 2}}},
			{Name: "widow", Says: yes("alms"), If: []api.Claim{yes("fast")}, Unless: []api.Claim{yes("take")}, Rank: 1, Days: all, Gifts: []api.Gift{{Who: "widow", Birds: 2}}},
			{Name: "bell", Says: yes("ring"), If: []api.Claim{yes("toll")}, Rank: 1, Days: all},
			{Name: "toll", Says: yes("toll"), If: []api.Claim{yes("ring")}, Rank: 1, Days: all},
			{Name: "east", Says: yes("open"), Rank: 3, Days: all, Gifts: []api.Gift{{Who: "east", Birds: 1}}},
			{Name: "west", Says: no("open"), Rank: 3, Days: all, Gifts: []api.Gift{{Who: "west", Birds: 1}}},
		},
	}
}

// exampleText is the source of the chapter's examples.
const exampleText = `fact fast days 40 to 46 known 0;
fact dearth days 43 to 50 known 44;
rule lord says take if fast rank 5 days 0 to 100 gives lord 4;
rule parson says not take if fast, dearth rank 7 days 0 to 100 gives poor 2;
rule widow says alms if fast unless take rank 1 days 0 to 100 gives widow 2;
rule bell says ring if toll rank 1 days 0 to 100;
rule toll says toll if ring rank 1 days 0 to 100;
rule east says open rank 3 days 0 to 100 gives east 1;
rule west says not open rank 3 days 0 to 100 gives west 1;
`

// long returns a name of 24 letters that ends with a letter more than a.
func long(n int) string { return strings.Repeat("z", 23) + string(rune('a'+n)) }

// full returns a code that has as much of all as it may have.
func full() api.Code {
	var c api.Code
	for i := range 30 {
		c.Facts = append(c.Facts, api.Fact{Claim: api.Claim{Thing: long(i % 26), Not: i%2 == 0}, Days: span(i, 730), Known: 730 - i})
		r := api.Rule{Name: "name" + strings.Repeat("x", i%15) + string(rune('a'+i/15)), Says: api.Claim{Thing: long(i % 25), Not: i%3 == 0}, Rank: 99, Days: span(0, 730)}
		for j := range 4 {
			r.If = append(r.If, api.Claim{Thing: long((i + j) % 26), Not: j < 2})
			r.Unless = append(r.Unless, api.Claim{Thing: long((i + 3*j) % 26), Not: j > 1})
			r.Gifts = append(r.Gifts, api.Gift{Who: long(j % 3), Birds: 9999})
		}
		c.Rules = append(c.Rules, r)
	}
	return c
}

// chain returns a code in which each rule but the first one needs what the one before it says.
func chain() api.Code {
	c := api.Code{Facts: []api.Fact{{Claim: yes("z"), Days: span(0, 730)}}}
	for i := range 30 {
		r := api.Rule{Name: "r" + string(rune('a'+i%26)) + string(rune('a'+i/26)), Days: span(0, 730)}
		r.Says.Thing = "t" + r.Name
		r.If = []api.Claim{yes("z")}
		if i > 0 {
			r.If = []api.Claim{c.Rules[i-1].Says}
		}
		c.Rules = append(c.Rules, r)
	}
	return c
}

// codes returns the codes above, and one that is empty.
func codes() []api.Code { return []api.Code{{}, example(), full(), chain()} }

// changed returns the code of the examples with a change.
func changed(change func(c *api.Code)) api.Code {
	c := example()
	change(&c)
	return c
}

// fails reports a promise whose error is not the one that is wanted.
func fails(t *testing.T, what string, got, want api.Errno) {
	t.Helper()
	if got != want {
		t.Errorf("%s: got error %d, want %d", what, got, want)
	}
}

// same reports a promise whose list is not the one that is wanted.
func same[T comparable](t *testing.T, what string, got []T, e api.Errno, want ...T) {
	t.Helper()
	if e != api.OK || !slices.Equal(got, want) {
		t.Errorf("%s: got %v, error %d, want %v", what, got, e, want)
	}
}

// wrong is a code that is not formed, and its first error.
type wrong struct {
	what string
	c    api.Code
	e    api.Errno
}

// wrongNames are texts that are no names.
func wrongNames() []string {
	l := []string{"", strings.Repeat("a", 25), "Fast", "fasT", "a b", " a", "a ", "a1", "1", "é", "a\x00", "a`", "a{", "a,", "\xff", "not a"}
	return append(l, strings.Split(reserved, "|")...)
}

// badClaims returns lists that can be neither an If nor an Unless.
func badClaims() [][]api.Claim {
	l := [][]api.Claim{
		{yes("a"), yes("b"), yes("c"), yes("d"), yes("e")},
		{yes("a"), no("a"), yes("a")},
		{no("b"), yes("a"), no("b")},
		{yes("a"), yes("a"), yes("a"), yes("a"), yes("a")},
	}
	for _, name := range wrongNames() {
		l = append(l, []api.Claim{yes("a"), {Thing: name, Not: true}})
	}
	return l
}

// wrongFields returns codes in which something has a wrong name, day, number or list.
func wrongFields() []wrong {
	var all []wrong
	bad := func(what string, change func(c *api.Code)) {
		all = append(all, wrong{what, changed(change), api.ErrForm})
	}
	for _, name := range wrongNames() {
		bad("the thing of a fact: "+name, func(c *api.Code) { c.Facts[1].Claim.Thing = name })
		bad("the name of a rule: "+name, func(c *api.Code) { c.Rules[6].Name = name })
		bad("what a rule says: "+name, func(c *api.Code) { c.Rules[6].Says.Thing = name })
		bad("who gets: "+name, func(c *api.Code) { c.Rules[5].Gifts = append(c.Rules[5].Gifts, api.Gift{Who: name, Birds: 1}) })
	}
	for _, l := range badClaims() {
		bad("if", func(c *api.Code) { c.Rules[3].If = l })
		bad("unless", func(c *api.Code) { c.Rules[3].Unless = l })
	}
	for _, s := range []api.Span{span(-1, 5), span(6, 5), span(0, 731), span(731, 731), span(math.MinInt, 5), span(5, math.MaxInt), span(730, 0)} {
		bad("the days of a fact", func(c *api.Code) { c.Facts[0].Days = s })
		bad("the days of a rule", func(c *api.Code) { c.Rules[0].Days = s })
	}
	for _, n := range []int{-1, 731, math.MinInt, math.MaxInt} {
		bad("known", func(c *api.Code) { c.Facts[0].Known = n })
	}
	for _, n := range []int{-1, 100, math.MinInt, math.MaxInt} {
		bad("rank", func(c *api.Code) { c.Rules[6].Rank = n })
	}
	for _, n := range []int{0, -1, 10000, math.MinInt, math.MaxInt} {
		bad("birds", func(c *api.Code) { c.Rules[6].Gifts[0].Birds = n })
	}
	bad("five gifts", func(c *api.Code) {
		c.Rules[6].Gifts = []api.Gift{{Who: "a", Birds: 1}, {Who: "b", Birds: 1}, {Who: "c", Birds: 1}, {Who: "d", Birds: 1}, {Who: "e", Birds: 1}}
	})
	return all
}

// wrongCodes returns codes that are not formed.
func wrongCodes() []wrong {
	f, r := example().Facts, example().Rules
	more := full()
	more.Rules[29].Name = more.Rules[0].Name
	return append(wrongFields(),
		wrong{"31 facts", api.Code{Facts: append(full().Facts, f[0]), Rules: r}, api.ErrLimit},
		wrong{"31 rules", api.Code{Facts: f, Rules: append(full().Rules, r[0])}, api.ErrLimit},
		wrong{"31 facts that are none", api.Code{Facts: make([]api.Fact, 31)}, api.ErrLimit},
		wrong{"31 rules that are none, of one name", api.Code{Rules: make([]api.Rule, 31)}, api.ErrLimit},
		wrong{"31 rules, and a fact that is none", api.Code{Facts: make([]api.Fact, 1), Rules: make([]api.Rule, 31)}, api.ErrLimit},
		wrong{"30 facts that are none", api.Code{Facts: make([]api.Fact, 30)}, api.ErrForm},
		wrong{"two rules that are none, of one name", api.Code{Rules: make([]api.Rule, 2)}, api.ErrForm},
		wrong{"a name twice", changed(func(c *api.Code) { c.Rules[6].Name = "lord" }), api.ErrTwice},
		wrong{"a name twice, of 30", more, api.ErrTwice},
		wrong{"a rule twice", api.Code{Rules: []api.Rule{r[0], r[0]}}, api.ErrTwice},
		wrong{"a name twice, and then no rank", changed(func(c *api.Code) { c.Rules[1].Name, c.Rules[6].Rank = "lord", 100 }), api.ErrForm},
		wrong{"a name twice, without a name", changed(func(c *api.Code) { c.Rules[0].Name, c.Rules[1].Name = "", "" }), api.ErrForm})
}

// rightCodes returns codes that are formed, at the limits of it.
func rightCodes() []api.Code {
	return append(codes(),
		changed(func(c *api.Code) { c.Facts[1] = c.Facts[0] }),
		changed(func(c *api.Code) { c.Facts[0] = api.Fact{Claim: no(long(25)), Days: span(730, 730), Known: 730} }),
		changed(func(c *api.Code) { c.Facts[0] = api.Fact{Claim: yes("a"), Days: span(0, 0), Known: 0} }),
		changed(func(c *api.Code) { c.Rules[0].Rank, c.Rules[0].Days = 0, span(0, 0) }),
		changed(func(c *api.Code) { c.Rules[0].Rank, c.Rules[0].Days = 99, span(0, 730) }),
		changed(func(c *api.Code) { c.Rules[0].Name = "take" }),
		changed(func(c *api.Code) { c.Rules[0].Name = "ruled" }),
		changed(func(c *api.Code) { c.Rules[0].Gifts = []api.Gift{{Who: "a", Birds: 9999}, {Who: "a", Birds: 1}} }),
		changed(func(c *api.Code) { c.Rules[0].If = []api.Claim{yes("a"), no("a"), yes("b"), yes("take")} }),
		changed(func(c *api.Code) { c.Rules[0].Unless = c.Rules[0].If }),
		changed(func(c *api.Code) { c.Rules[0].If, c.Rules[0].Gifts = []api.Claim{}, []api.Gift{} }))
}

func TestCheck(t *testing.T) {
	for i, c := range rightCodes() {
		if e := right.Check(c); e != api.OK {
			t.Errorf("P6.1: the right code %d: error %d", i, e)
		}
	}
	for _, x := range wrongCodes() {
		fails(t, "P6.1: "+x.what, right.Check(x.c), x.e)
	}
}

// call is a function with a code: its results but for the error.
type call struct {
	name string
	do   func(c api.Code) ([]any, api.Errno)
}

// one and two return the results of a function in one list.
func one[T any](x T, e api.Errno) ([]any, api.Errno) { return []any{x}, e }

func two[T, U any](x T, y U, e api.Errno) ([]any, api.Errno) { return []any{x, y}, e }

// input is what the functions are given beside a code.
type input struct {
	day, known int
	claim      api.Claim
	rules      []int
}

// rule returns the first one of the rules.
func (x input) rule() int { return append(slices.Clone(x.rules), 0)[0] }

// callsOfClaim returns the functions with a claim.
func callsOfClaim(x input) []call {
	return []call{
		{"Is", func(c api.Code) ([]any, api.Errno) { return one(right.Is(c, x.day, x.known, x.claim)) }},
		{"Why", func(c api.Code) ([]any, api.Errno) { return one(right.Why(c, x.day, x.known, x.claim)) }},
		{"CheckWhy", func(c api.Code) ([]any, api.Errno) {
			return nil, right.CheckWhy(c, x.day, x.known, x.claim, x.rules)
		}},
		{"Rests", func(c api.Code) ([]any, api.Errno) { return one(right.Rests(c, x.day, x.known, x.claim)) }},
		{"Changes", func(c api.Code) ([]any, api.Errno) { return one(right.Changes(c, x.known, x.claim)) }},
	}
}

// callsOfDays returns the functions with days and without a claim.
func callsOfDays(x input) []call {
	return []call{
		{"Holding", func(c api.Code) ([]any, api.Errno) { return one(right.Holding(c, x.day)) }},
		{"Given", func(c api.Code) ([]any, api.Errno) { return one(right.Given(c, x.day, x.known)) }},
		{"Rivals", func(c api.Code) ([]any, api.Errno) { return one(right.Rivals(c, x.rule(), x.day)) }},
		{"Judge", func(c api.Code) ([]any, api.Errno) { return one(right.Judge(c, x.day, x.known)) }},
		{"CheckRuling", func(c api.Code) ([]any, api.Errno) {
			return nil, right.CheckRuling(c, x.day, x.known, api.Ruling{Things: []string{"?"}})
		}},
		{"Disputed", func(c api.Code) ([]any, api.Errno) { return one(right.Disputed(c, x.day, x.known)) }},
		{"Gifts", func(c api.Code) ([]any, api.Errno) { return two(right.Gifts(c, x.day, x.known)) }},
		{"Moot", func(c api.Code) ([]any, api.Errno) { return one(right.Moot(c, x.day, x.known)) }},
	}
}

// calls returns all functions with a code.
func calls(x input) []call {
	return append(slices.Concat(callsOfClaim(x), callsOfDays(x)),
		call{"Print", func(c api.Code) ([]any, api.Errno) { return one(right.Print(c)) }},
		call{"Check", func(c api.Code) ([]any, api.Errno) { return nil, right.Check(c) }},
		call{"Things", func(c api.Code) ([]any, api.Errno) { return one(right.Things(c)) }},
		call{"Add", func(c api.Code) ([]any, api.Errno) {
			return one(right.Add(c, api.Fact{Claim: x.claim, Days: span(x.day, x.day), Known: x.known}))
		}},
		call{"Without", func(c api.Code) ([]any, api.Errno) { return one(right.Without(c, x.rules)) }})
}

// isZero says whether a result is a zero value, or an empty list.
func isZero(x any) bool {
	v := reflect.ValueOf(x)
	return v.IsZero() || v.Kind() == reflect.Slice && v.Len() == 0
}

// failsAt reports a function that does not return just an error.
func failsAt(t *testing.T, promise, what string, c call, code api.Code, want api.Errno) {
	t.Helper()
	got, e := c.do(code)
	if e != want || slices.ContainsFunc(got, func(x any) bool { return !isZero(x) }) {
		t.Errorf("%s: %s of %s: %v, error %d, want %d", promise, c.name, what, got, e, want)
	}
}

// named returns those of some functions that have one of some names, or those that have none of them.
func named(all []call, have bool, names ...string) []call {
	return slices.DeleteFunc(slices.Clone(all), func(c call) bool { return slices.Contains(names, c.name) != have })
}

// The names of the functions that have something of an input.
var (
	withDay   = []string{"Is", "Why", "CheckWhy", "Rests", "Holding", "Given", "Rivals", "Judge", "CheckRuling", "Disputed", "Gifts", "Moot"}
	withKnown = []string{"Is", "Why", "CheckWhy", "Rests", "Changes", "Given", "Judge", "CheckRuling", "Disputed", "Gifts", "Moot"}
)

// strange are numbers that are neither days nor indices of the rules of the examples.
var strange = []int{-1, 731, math.MinInt, math.MaxInt}

func TestFirstErrors(t *testing.T) {
	for _, x := range wrongCodes() {
		for _, in := range []input{{41, 60, yes("take"), []int{1}}, {-1, 731, yes("nothing"), []int{-1, 99}}, {731, -1, yes(""), make([]int, 99)}} {
			for _, c := range calls(in) {
				failsAt(t, "P6.1, R4", x.what, c, x.c, x.e)
			}
		}
	}
}

func TestErrorsOfDays(t *testing.T) {
	for _, n := range strange {
		for _, in := range []input{{n, 60, yes("take"), []int{1}}, {n, n, yes("nothing"), []int{-1, 99}}, {n, 0, yes(""), make([]int, 99)}} {
			for _, c := range named(calls(in), true, withDay...) {
				failsAt(t, "R3, R4", "a day that is none", c, example(), api.ErrArg)
				failsAt(t, "R3, R4", "a day that is none", c, api.Code{}, api.ErrArg)
			}
			in.day, in.known = 0, n
			for _, c := range named(calls(in), true, withKnown...) {
				failsAt(t, "R3, R4", "a day of knowing that is none", c, example(), api.ErrArg)
				failsAt(t, "R3, R4", "a day of knowing that is none", c, api.Code{}, api.ErrArg)
			}
		}
	}
	for _, day := range []int{0, 730} {
		for _, c := range named(calls(input{day, 730 - day, yes("take"), nil}), false, "Why", "CheckWhy", "CheckRuling") {
			if _, e := c.do(example()); e != api.OK {
				t.Errorf("%s on the day %d, known %d: error %d", c.name, day, 730-day, e)
			}
		}
	}
}

func TestErrorsOfRules(t *testing.T) {
	for _, n := range append([]int{7}, strange...) {
		for _, c := range named(calls(input{41, 60, yes("nothing"), []int{n}}), true, "Rivals", "CheckWhy", "Without") {
			failsAt(t, "R3, R4", "a rule that is none", c, example(), api.ErrArg)
			failsAt(t, "R3, R4", "a rule that is none", c, api.Code{}, api.ErrArg)
		}
		for _, c := range named(calls(input{41, 60, yes("nothing"), []int{0, n, 1}}), true, "CheckWhy", "Without") {
			failsAt(t, "R3, R4", "a rule that is none among others", c, example(), api.ErrArg)
		}
	}
	for _, l := range [][]int{{1, 0}, {0, 0}, {0, 1, 1}, {0, 2, 1}} {
		for _, c := range named(calls(input{rules: l}), true, "Without") {
			failsAt(t, "R3, R4", "rules in another order", c, example(), api.ErrArg)
		}
	}
}

func TestErrorsOfClaims(t *testing.T) {
	for _, thing := range []string{"nothing", "lord", "parson", "east", "", "Take", "takes", "tak", "not", strings.Repeat("a", 25), "\xff"} {
		for _, not := range []bool{false, true} {
			for _, l := range [][]int{nil, {1, 0}, make([]int, 61)} {
				for _, c := range callsOfClaim(input{41, 60, api.Claim{Thing: thing, Not: not}, l}) {
					failsAt(t, "R3, R4", "a claim about no thing", c, example(), api.ErrNone)
				}
			}
			for _, c := range callsOfClaim(input{0, 0, api.Claim{Thing: thing, Not: not}, nil}) {
				failsAt(t, "R3, R4", "a claim about no thing", c, api.Code{}, api.ErrNone)
			}
		}
	}
}

func TestThings(t *testing.T) {
	l, e := right.Things(example())
	same(t, "P6.2: Things", l, e, "alms", "dearth", "fast", "open", "ring", "take", "toll")
	l, e = right.Things(api.Code{})
	same(t, "P6.2: Things of nothing", l, e)
	l, e = right.Things(api.Code{Facts: []api.Fact{{Claim: no("b")}, {Claim: yes("aa")}, {Claim: yes("b")}}})
	same(t, "P6.2: Things of facts", l, e, "aa", "b")
	l, e = right.Things(api.Code{Rules: []api.Rule{{Name: "n", Says: no("d"), If: []api.Claim{no("c"), yes("dd")}, Unless: []api.Claim{yes("a"), no("b")}, Gifts: []api.Gift{{Who: "w", Birds: 1}}}}})
	same(t, "P6.2: Things of a rule", l, e, "a", "b", "c", "d", "dd")
	d := dice(2)
	for range 200 {
		c := d.code()
		l, e := right.Things(c)
		same(t, "P6.2: Things", l, e, thingsOf(c)...)
	}
}

func TestHolding(t *testing.T) {
	c := example()
	c.Rules[1].Days, c.Rules[4].Days, c.Rules[5].Days = span(50, 730), span(0, 49), span(50, 50)
	for day, want := range map[int][]int{
		0: {0, 2, 3, 4, 6}, 49: {0, 2, 3, 4, 6}, 50: {0, 1, 2, 3, 5, 6}, 51: {0, 1, 2, 3, 6}, 100: {0, 1, 2, 3, 6}, 101: {1}, 730: {1},
	} {
		l, e := right.Holding(c, day)
		same(t, "P6.2: Holding", l, e, want...)
	}
	l, e := right.Holding(api.Code{}, 0)
	same(t, "P6.2: Holding of nothing", l, e)
}

func TestGiven(t *testing.T) {
	c := example()
	c.Facts = append(c.Facts, c.Facts[0],
		api.Fact{Claim: no("fast"), Days: span(45, 45), Known: 45},
		api.Fact{Claim: no("a"), Days: span(45, 46), Known: 730})
	for _, x := range []struct {
		day, known int
		want       []api.Claim
	}{
		{41, 60, []api.Claim{yes("fast")}}, {39, 60, nil}, {40, 0, []api.Claim{yes("fast")}}, {46, 0, []api.Claim{yes("fast")}}, {47, 0, nil},
		{43, 43, []api.Claim{yes("fast")}}, {43, 44, []api.Claim{yes("dearth"), yes("fast")}}, {42, 44, []api.Claim{yes("fast")}},
		{50, 44, []api.Claim{yes("dearth")}}, {51, 60, nil},
		{45, 45, []api.Claim{yes("dearth"), yes("fast"), no("fast")}},
		{45, 730, []api.Claim{no("a"), yes("dearth"), yes("fast"), no("fast")}},
		{46, 729, []api.Claim{yes("dearth"), yes("fast")}},
	} {
		l, e := right.Given(c, x.day, x.known)
		same(t, "P6.2: Given", l, e, x.want...)
	}
	d := dice(3)
	for range 300 {
		c, day, known := d.code(), d.roll(9), d.roll(9)
		want := slices.DeleteFunc(claimsOf(c), func(x api.Claim) bool { return !isGiven(c, day, known, x) })
		l, e := right.Given(c, day, known)
		same(t, "P6.2: Given", l, e, want...)
	}
}

func TestRivals(t *testing.T) {
	c := example()
	c.Rules[5].Days = span(50, 60)
	for _, x := range []struct {
		rule, day int
		want      []int
	}{
		{0, 41, []int{1}}, {1, 41, nil}, {5, 41, []int{6}}, {6, 41, nil}, {6, 50, []int{5}}, {6, 60, []int{5}}, {6, 61, nil},
		{2, 41, nil}, {3, 41, nil}, {0, 101, nil}, {5, 101, nil}, {5, 100, []int{6}},
	} {
		l, e := right.Rivals(c, x.rule, x.day)
		same(t, "P6.2: Rivals", l, e, x.want...)
	}
	d := dice(4)
	for range 300 {
		c, day := d.code(), d.roll(9)
		for i := range c.Rules {
			l, e := right.Rivals(c, i, day)
			same(t, "P6.2: Rivals", l, e, rivalsOf(c, i, day)...)
		}
	}
}

// spread returns a list behind which, up to its capacity, there is something.
func spread[T any](l []T, x T) []T { return append(slices.Clone(l), x, x)[:len(l)] }

// spreadCode returns a code in new memory, with something behind all of its lists.
func spreadCode(c api.Code) api.Code {
	n := api.Code{Facts: spread(c.Facts, api.Fact{Known: 99}), Rules: spread(c.Rules, api.Rule{Name: "behind"})}
	for i := range n.Rules {
		r := &n.Rules[i]
		r.If, r.Unless, r.Gifts = spread(r.If, yes("behind")), spread(r.Unless, yes("behind")), spread(r.Gifts, api.Gift{Who: "behind"})
	}
	return n
}

// whole returns a list up to its capacity.
func whole[T any](l []T) []T { return slices.Clone(l[:cap(l)]) }

// wholeCode returns a code with what is behind its lists, in new memory.
func wholeCode(c api.Code) api.Code {
	n := api.Code{Facts: whole(c.Facts), Rules: whole(c.Rules)}
	for i := range n.Rules {
		r := &n.Rules[i]
		r.If, r.Unless, r.Gifts = whole(r.If), whole(r.Unless), whole(r.Gifts)
	}
	return n
}

// inputs returns inputs for which most functions have something to tell.
func inputs() []input {
	return []input{
		{41, 60, yes("take"), []int{0, 2}}, {45, 60, no("take"), []int{1}}, {0, 730, yes(long(3)), []int{3, 7, 29}},
		{700, 730, no(long(1)), []int{}}, {0, 0, chain().Rules[29].Says, []int{4, 3}}, {-1, 0, yes("?"), []int{99}},
	}
}

func TestArgumentsStayTheSame(t *testing.T) {
	for _, c := range codes() {
		c = spreadCode(c)
		before := wholeCode(c)
		for _, x := range inputs() {
			x.rules = spread(x.rules, 77)
			rules := whole(x.rules)
			for _, f := range calls(x) {
				f.do(c)
				if !reflect.DeepEqual(wholeCode(c), before) || !slices.Equal(whole(x.rules), rules) {
					t.Fatalf("R6: %s has changed an argument: %v, %v", f.name, wholeCode(c), whole(x.rules))
				}
			}
		}
		v, _ := right.Judge(c, 41, 60)
		v = api.Ruling{Things: spread(v.Things, "x"), Yes: spread(v.Yes, api.Stand{Is: 9}), No: spread(v.No, api.Stand{Is: 9}), Rules: spread(v.Rules, api.Stand{Is: 9})}
		ruling := api.Ruling{Things: whole(v.Things), Yes: whole(v.Yes), No: whole(v.No), Rules: whole(v.Rules)}
		fails(t, "P6.3", right.CheckRuling(c, 41, 60, v), api.OK)
		if !reflect.DeepEqual(ruling, api.Ruling{Things: whole(v.Things), Yes: whole(v.Yes), No: whole(v.No), Rules: whole(v.Rules)}) {
			t.Error("R6: CheckRuling has changed the ruling:", v)
		}
	}
}

// spoil changes all that is in the lists of a result.
func spoil(v reflect.Value) {
	switch v.Kind() {
	case reflect.Slice:
		for i := range v.Len() {
			spoil(v.Index(i))
		}
	case reflect.Struct:
		for i := range v.NumField() {
			spoil(v.Field(i))
		}
	case reflect.Int:
		if v.CanSet() {
			v.SetInt(v.Int() - 1000)
		}
	case reflect.String:
		if v.CanSet() {
			v.SetString("spoilt")
		}
	}
}

func TestResultsAreNew(t *testing.T) {
	for i := range codes() {
		c := codes()[i]
		for _, x := range inputs() {
			for _, f := range calls(x) {
				first, e := f.do(c)
				for _, y := range first {
					spoil(reflect.ValueOf(y))
				}
				second, g := f.do(c)
				third, h := f.do(codes()[i])
				if e != g || g != h || !reflect.DeepEqual(second, third) {
					t.Fatalf("R6, R7: %s: %v, and %v of the same, errors %d, %d and %d", f.name, second, third, e, g, h)
				}
			}
		}
		if !reflect.DeepEqual(c, codes()[i]) {
			t.Fatal("R6: a result shares memory with a code:", c)
		}
	}
}

// lists appends the first elements of all lists in a result, by their addresses.
func lists(v reflect.Value, all []uintptr) []uintptr {
	switch v.Kind() {
	case reflect.Slice:
		if v.Len() > 0 {
			all = append(all, v.Pointer())
		}
		for i := range v.Len() {
			all = lists(v.Index(i), all)
		}
	case reflect.Struct:
		for i := range v.NumField() {
			all = lists(v.Field(i), all)
		}
	}
	return all
}

func TestListsOfResultsAreTheirOwn(t *testing.T) {
	var all []uintptr
	c := example()
	c.Rules[1].If = c.Rules[0].If
	c.Rules[2].Unless = c.Rules[0].If
	all = lists(reflect.ValueOf(c.Rules[0].If), all)
	more, _ := right.Add(c, c.Facts[0])
	less, _ := right.Without(c, []int{3})
	v, _ := right.Judge(c, 41, 60)
	sure, possible, _ := right.Gifts(c, 45, 60)
	parsed, _, _ := right.Parse(exampleText)
	for _, x := range []any{more, less, v, sure, possible, parsed} {
		all = lists(reflect.ValueOf(x), all)
	}
	if slices.Sort(all); len(slices.Compact(slices.Clone(all))) != len(all) {
		t.Error("R6: lists of results share memory")
	}
}
