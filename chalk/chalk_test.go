package chalk_test

import (
	"math"
	"slices"
	"strings"
	"testing"

	"potence/api"
	"potence/chalk"
)

// example returns the grammar of the chapter's examples.
func example() api.Grammar {
	return api.Grammar{
		Symbols: 2, Start: 1, Other: 5, Missed: 4, Added: 3, Smudged: 1,
		Makings: []api.Making{
			{Symbol: 1, Items: []int{-1, 2}, Cost: 1},
			{Symbol: 2, Items: []int{2, -2}, Cost: 1},
			{Symbol: 2, Items: []int{-2}, Cost: 2},
			{Symbol: 1, Cost: 9},
		},
	}
}

// exampleTree returns the cheapest tree of the mark 1 2 2.
func exampleTree() []api.Bough {
	return []api.Bough{{Making: 0, From: 0, To: 3}, {Making: -1, From: 0, To: 1}, {Making: 1, From: 1, To: 3}, {Making: 2, From: 1, To: 2}, {Making: -1, From: 1, To: 2}, {Making: -1, From: 2, To: 3}}
}

// largest returns a grammar in which everything is as large as it may be.
func largest() api.Grammar {
	g := api.Grammar{Symbols: 12, Start: 12, Other: 1000, Missed: 1000, Added: 1000, Smudged: 1000}
	for i := range 30 {
		g.Makings = append(g.Makings, api.Making{Symbol: i%12 + 1, Items: []int{-20, 12, -1}, Cost: 1000})
	}
	return g
}

// fails reports a promise whose error is not the one that is wanted.
func fails(t *testing.T, what string, got, want api.Errno) {
	t.Helper()
	if got != want {
		t.Errorf("%s: got error %d, want %d", what, got, want)
	}
}

// changed returns the grammar of the examples with a change.
func changed(change func(g *api.Grammar)) api.Grammar {
	g := example()
	change(&g)
	return g
}

// wrong is a grammar that is not valid, and its first error.
type wrong struct {
	what string
	g    api.Grammar
	e    api.Errno
}

// wrongGrammars returns grammars that are not valid.
func wrongGrammars() []wrong {
	all := []wrong{
		{"nothing", api.Grammar{}, api.ErrArg},
		{"no symbols", changed(func(g *api.Grammar) { g.Symbols = 0 }), api.ErrArg},
		{"symbols below none", changed(func(g *api.Grammar) { g.Symbols = math.MinInt }), api.ErrArg},
		{"too many symbols", changed(func(g *api.Grammar) { g.Symbols = 13 }), api.ErrArg},
		{"no start", changed(func(g *api.Grammar) { g.Start = 0 }), api.ErrArg},
		{"a start below none", changed(func(g *api.Grammar) { g.Start = -1 }), api.ErrArg},
		{"another start", changed(func(g *api.Grammar) { g.Start = 3 }), api.ErrArg},
		{"31 makings", changed(func(g *api.Grammar) { g.Makings = append(largest().Makings, g.Makings[0]) }), api.ErrLimit},
		{"31 makings that are none", changed(func(g *api.Grammar) { g.Makings = make([]api.Making, 31) }), api.ErrLimit},
		{"31 makings, and no symbols", changed(func(g *api.Grammar) { g.Symbols, g.Makings = 0, make([]api.Making, 31) }), api.ErrArg},
		{"31 makings, and no cost", changed(func(g *api.Grammar) { g.Added, g.Makings = 0, make([]api.Making, 31) }), api.ErrArg},
		{"30 makings that are none", changed(func(g *api.Grammar) { g.Makings = make([]api.Making, 30) }), api.ErrArg},
	}
	for _, n := range []int{0, -1, 1001, math.MaxInt, math.MinInt} {
		all = append(all,
			wrong{"other", changed(func(g *api.Grammar) { g.Other = n }), api.ErrArg},
			wrong{"missed", changed(func(g *api.Grammar) { g.Missed = n }), api.ErrArg},
			wrong{"added", changed(func(g *api.Grammar) { g.Added = n }), api.ErrArg},
			wrong{"smudged", changed(func(g *api.Grammar) { g.Smudged = n }), api.ErrArg},
			wrong{"cost", changed(func(g *api.Grammar) { g.Makings[3].Cost = n }), api.ErrArg})
	}
	for _, n := range []int{0, -1, 3, math.MaxInt, math.MinInt} {
		all = append(all, wrong{"symbol", changed(func(g *api.Grammar) { g.Makings[3].Symbol = n }), api.ErrArg})
	}
	for _, n := range []int{0, 3, -21, math.MaxInt, math.MinInt} {
		all = append(all,
			wrong{"first item", changed(func(g *api.Grammar) { g.Makings[1].Items = []int{n, 1} }), api.ErrArg},
			wrong{"last item", changed(func(g *api.Grammar) { g.Makings[3].Items = []int{1, -1, n} }), api.ErrArg})
	}
	return append(all, wrong{"four items", changed(func(g *api.Grammar) { g.Makings[3].Items = []int{1, 1, 1, 1} }), api.ErrArg})
}

func TestCheck(t *testing.T) {
	for _, g := range []api.Grammar{
		example(),
		largest(),
		changed(func(g *api.Grammar) { g.Makings = nil }),
		changed(func(g *api.Grammar) { g.Start = 2 }),
		changed(func(g *api.Grammar) { g.Makings[3].Items = []int{-1, -20, 2} }),
		{Symbols: 1, Start: 1, Other: 1, Missed: 1, Added: 1, Smudged: 1},
		{Symbols: 12, Start: 1, Other: 1000, Missed: 1, Added: 1000, Smudged: 1, Makings: []api.Making{{Symbol: 12, Items: []int{12, 12, 1}, Cost: 1}}},
	} {
		fails(t, "P3.1: a valid grammar", chalk.Check(g), api.OK)
	}
	for _, x := range wrongGrammars() {
		fails(t, "P3.1: "+x.what, chalk.Check(x.g), x.e)
	}
}

// wrongMarks returns what are no marks, with the errors.
func wrongMarks() map[api.Errno][][]int {
	return map[api.Errno][][]int{
		api.ErrLimit: {make([]int, 17), slices.Repeat([]int{-1}, 17)},
		api.ErrArg:   {{-1}, {21}, {1, 2, 21}, {21, 1, 2}, {math.MaxInt}, {math.MinInt}, slices.Repeat([]int{-1}, 16)},
	}
}

func TestCheckMark(t *testing.T) {
	for _, mark := range [][]int{nil, {}, {0}, {1, 20}, make([]int, 16), slices.Repeat([]int{20}, 16)} {
		fails(t, "P3.1: a mark", chalk.CheckMark(mark), api.OK)
	}
	for e, marks := range wrongMarks() {
		for _, mark := range marks {
			fails(t, "P3.1: no mark", chalk.CheckMark(mark), e)
		}
	}
}

// call is a function with a grammar and an error.
type call struct {
	name string
	do   func(g api.Grammar, mark []int) (any, api.Errno)
	zero func(any) bool
}

// empty says whether a list has no elements.
func empty[T any](x any) bool { return len(x.([]T)) == 0 }

// zero says whether a number is 0.
func zero(x any) bool { return x.(int) == 0 }

// nothing says that there is no result.
func nothing(x any) bool { return x == nil }

// withMark returns the functions with a mark; their other arguments are wrong, or right.
func withMark(wrong bool) []call {
	tree, at := exampleTree(), 0
	if wrong {
		tree, at = make([]api.Bough, 201), -1
	}
	place := api.Place{Symbol: 1 + at, From: at, To: 0}
	return []call{
		{"Stroke", func(g api.Grammar, mark []int) (any, api.Errno) { return pair(chalk.Stroke(g, mark, at, 0, 1+at)) }, zero},
		{"Table", func(g api.Grammar, mark []int) (any, api.Errno) { x, e := chalk.Table(g, mark); return x.Least, e }, empty[[]int]},
		{"CheckTable", func(g api.Grammar, mark []int) (any, api.Errno) { return nil, chalk.CheckTable(g, mark, api.Costs{}) }, nothing},
		{"Least", func(g api.Grammar, mark []int) (any, api.Errno) { return pair(chalk.Least(g, mark, place)) }, zero},
		{"Read", func(g api.Grammar, mark []int) (any, api.Errno) {
			x, n, e := chalk.Read(g, mark)
			return append(x, make([]api.Bough, n)...), e
		}, empty[api.Bough]},
		{"CheckTree", func(g api.Grammar, mark []int) (any, api.Errno) { return pair(chalk.CheckTree(g, mark, tree)) }, zero},
		{"CheckRead", func(g api.Grammar, mark []int) (any, api.Errno) {
			return nil, chalk.CheckRead(g, mark, tree, api.Costs{})
		}, nothing},
		{"Meant", func(g api.Grammar, mark []int) (any, api.Errno) { return pair(chalk.Meant(g, mark, tree)) }, empty[int]},
		{"Possible", func(g api.Grammar, mark []int) (any, api.Errno) { return pair(chalk.Possible(g, mark)) }, empty[api.Place]},
		{"Sure", func(g api.Grammar, mark []int) (any, api.Errno) { return pair(chalk.Sure(g, mark)) }, empty[api.Place]},
		{"Count", func(g api.Grammar, mark []int) (any, api.Errno) { return pair(chalk.Count(g, mark)) }, zero},
		{"Next", func(g api.Grammar, mark []int) (any, api.Errno) { return pair(chalk.Next(g, mark)) }, zero},
		{"Needed", func(g api.Grammar, mark []int) (any, api.Errno) { return pair(chalk.Needed(g, mark)) }, empty[int]},
	}
}

// pair returns a result of any type with its error.
func pair[T any](x T, e api.Errno) (any, api.Errno) { return x, e }

// withGrammar returns the functions with a grammar alone.
func withGrammar() []call {
	return []call{
		{"Check", func(g api.Grammar, _ []int) (any, api.Errno) { return nil, chalk.Check(g) }, nothing},
		{"Useless", func(g api.Grammar, _ []int) (any, api.Errno) { return pair(chalk.Useless(g)) }, empty[int]},
		{"Shortest", func(g api.Grammar, _ []int) (any, api.Errno) { return pair(chalk.Shortest(g)) }, empty[int]},
		{"Without", func(g api.Grammar, _ []int) (any, api.Errno) {
			x, e := chalk.Without(g, -1)
			return append(x.Makings, make([]api.Making, x.Symbols)...), e
		}, empty[api.Making]},
	}
}

func TestFirstErrors(t *testing.T) {
	for _, c := range append(withMark(true), withGrammar()...) {
		for _, x := range wrongGrammars() {
			for _, mark := range [][]int{{1, 2, 2}, {-1}, make([]int, 17)} {
				got, e := c.do(x.g, mark)
				if e != x.e || !c.zero(got) {
					t.Errorf("P3.1: %s of %s: %v, error %d, want %d", c.name, x.what, got, e, x.e)
				}
			}
		}
	}
	for _, c := range append(withMark(true), withMark(false)...) {
		for want, marks := range wrongMarks() {
			for _, mark := range marks {
				for _, g := range []api.Grammar{example(), changed(func(g *api.Grammar) { g.Makings = nil })} {
					got, e := c.do(g, mark)
					if e != want || !c.zero(got) {
						t.Errorf("P3.1: %s of %v: %v, error %d, want %d", c.name, mark, got, e, want)
					}
				}
			}
		}
	}
}

func TestText(t *testing.T) {
	all := make([]int, 16)
	for i := range all {
		all[i] = i + 5
	}
	for _, x := range []struct {
		mark []int
		text string
	}{
		{nil, ""}, {[]int{1, 2, 0}, "ab?"}, {[]int{0}, "?"}, {[]int{20, 1}, "ta"}, {all, "efghijklmnopqrst"}, {make([]int, 16), "????????????????"},
	} {
		text, e := chalk.Text(x.mark)
		if e != api.OK || text != x.text {
			t.Errorf("P3.2: text of %v: %q, error %d", x.mark, text, e)
		}
		mark, e, at := chalk.Scan(x.text)
		if e != api.OK || at != 0 || !slices.Equal(mark, x.mark) {
			t.Errorf("P3.2: scan of %q: %v, error %d at %d", x.text, mark, e, at)
		}
	}
	for want, marks := range wrongMarks() {
		for _, mark := range marks {
			if text, e := chalk.Text(mark); e != want || text != "" {
				t.Errorf("P3.2: text of %v: %q, error %d", mark, text, e)
			}
		}
	}
}

func TestScanErrors(t *testing.T) {
	for _, x := range []struct {
		text string
		e    api.Errno
		at   int
	}{
		{"u", api.ErrForm, 0}, {"abu", api.ErrForm, 2}, {"a b", api.ErrForm, 1}, {"aA", api.ErrForm, 1}, {"a`", api.ErrForm, 1}, {"a@?", api.ErrForm, 1},
		{"ab\n", api.ErrForm, 2}, {"?1?2", api.ErrForm, 1}, {"a\x00", api.ErrForm, 1}, {"ab\u00e9", api.ErrForm, 2}, {"\xff", api.ErrForm, 0}, {"zu", api.ErrForm, 0},
		{strings.Repeat("a", 17), api.ErrLimit, 0}, {strings.Repeat("?", 1000), api.ErrLimit, 0},
		{strings.Repeat("a", 17) + "z", api.ErrForm, 17}, {"?" + strings.Repeat("!", 40), api.ErrForm, 1},
	} {
		mark, e, at := chalk.Scan(x.text)
		if e != x.e || at != x.at || len(mark) > 0 {
			t.Errorf("P3.2: scan of %q: %v, error %d at %d, want %d at %d", x.text, mark, e, at, x.e, x.at)
		}
	}
	for b := range 256 {
		mark, e, at := chalk.Scan(string([]byte{'t', byte(b)}))
		is := b == '?' || 'a' <= b && b <= 't'
		if is != (e == api.OK) || !is && (e != api.ErrForm || at != 1) || is && len(mark) != 2 {
			t.Errorf("P3.2: scan of the byte %d: %v, error %d at %d", b, mark, e, at)
		}
	}
}

func TestTextAndBack(t *testing.T) {
	d := dice(11)
	for range 500 {
		var mark []int
		for range d.roll(17) {
			mark = append(mark, d.roll(21))
		}
		text, e := chalk.Text(mark)
		back, f, at := chalk.Scan(text)
		if e != api.OK || f != api.OK || at != 0 || !slices.Equal(back, mark) {
			t.Fatalf("P3.11: %v is %q, and this is %v, errors %d and %d", mark, text, back, e, f)
		}
		if again, e := chalk.Text(back); e != api.OK || again != text {
			t.Fatalf("P3.11: %q is %v, and this is %q, error %d", text, back, again, e)
		}
	}
}
