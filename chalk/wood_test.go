package chalk_test

import (
	"cmp"
	"slices"
	"testing"

	"potence/api"
	"potence/chalk"
)

// order orders places by Symbol, then From, then To.
func order(p, q api.Place) int {
	return cmp.Or(cmp.Compare(p.Symbol, q.Symbol), cmp.Compare(p.From, q.From), cmp.Compare(p.To, q.To))
}

// common returns what some trees have, and what all of them have, in order.
func common[T comparable](trees [][]api.Bough, of func(tree []api.Bough) map[T]bool, order func(x, y T) int) (some, all []T) {
	times := map[T]int{}
	for _, tree := range trees {
		for x := range of(tree) {
			times[x]++
		}
	}
	for x, n := range times {
		some = append(some, x)
		if n == len(trees) {
			all = append(all, x)
		}
	}
	slices.SortFunc(some, order)
	slices.SortFunc(all, order)
	return some, all
}

func TestExamplesOfWoods(t *testing.T) {
	g, mark := example(), []int{1, 2, 2}
	want := []api.Place{{Symbol: 1, From: 0, To: 3}, {Symbol: 2, From: 1, To: 2}, {Symbol: 2, From: 1, To: 3}}
	if l, e := chalk.Possible(g, mark); e != api.OK || !slices.Equal(l, want) {
		t.Error("P3.6: possible:", l, e)
	}
	if l, e := chalk.Sure(g, mark); e != api.OK || !slices.Equal(l, want) {
		t.Error("P3.6, P3.14: sure:", l, e)
	}
	if n, e := chalk.Count(g, mark); e != api.OK || n != 1 {
		t.Error("P3.7: count:", n, e)
	}
	if n, e := chalk.Next(g, mark); e != api.OK || n != 6 {
		t.Error("P3.7: next:", n, e)
	}
	if l, e := chalk.Needed(g, mark); e != api.OK || !slices.Equal(l, []int{0, 1, 2}) {
		t.Error("P3.8: needed:", l, e)
	}
	if l, e := chalk.Needed(g, []int{1, 2}); e != api.OK || !slices.Equal(l, []int{0, 2}) {
		t.Error("P3.8: needed:", l, e)
	}
}

func TestNoWoods(t *testing.T) {
	for _, g := range []api.Grammar{
		changed(func(g *api.Grammar) { g.Makings = nil }),
		changed(func(g *api.Grammar) {
			g.Makings = []api.Making{{Symbol: 1, Items: []int{1, -1}, Cost: 1}, {Symbol: 2, Cost: 1}}
		}),
	} {
		for _, mark := range [][]int{nil, {1, 2}} {
			if n, e := chalk.Count(g, mark); e != api.OK || n != 0 {
				t.Error("P3.7: count of no tree:", n, e)
			}
			for _, c := range withMark(false) {
				if slices.Contains([]string{"Read", "Least", "Possible", "Sure", "Next", "Needed"}, c.name) {
					if x, e := c.do(g, mark); e != api.ErrNone || !c.zero(x) {
						t.Errorf("P3.6, P3.7, P3.8: %s of no tree: %v, error %d", c.name, x, e)
					}
				}
			}
		}
	}
}

// checkWood holds what is told of all cheapest trees to the trees.
func checkWood(t *testing.T, o *oracle, trees [][]api.Bough) {
	t.Helper()
	some, all := common(trees, func(tree []api.Bough) map[api.Place]bool { return places(o.g, tree) }, order)
	if l, e := chalk.Possible(o.g, o.mark); e != api.OK || !slices.Equal(l, some) {
		t.Fatalf("P3.6: %+v: %v: possible %v, error %d, want %v", o.g, o.mark, l, e, some)
	}
	if l, e := chalk.Sure(o.g, o.mark); e != api.OK || !slices.Equal(l, all) {
		t.Fatalf("P3.6, P3.14: %+v: %v: sure %v, error %d, want %v", o.g, o.mark, l, e, all)
	}
	if n, e := chalk.Count(o.g, o.mark); e != api.OK || n != len(trees) {
		t.Fatalf("P3.7: %+v: %v: count %d, error %d, want %d", o.g, o.mark, n, e, len(trees))
	}
	_, needed := common(trees, makings, cmp.Compare[int])
	if l, e := chalk.Needed(o.g, o.mark); e != api.OK || !slices.Equal(l, needed) {
		t.Fatalf("P3.8, P3.15: %+v: %v: needed %v, error %d, want %v", o.g, o.mark, l, e, needed)
	}
}

func TestWoodsOfAllTrees(t *testing.T) {
	d := dice(47)
	var one, more int
	for range 1500 {
		o := newOracle(d.grammar(), d.mark(4))
		trees, least, ok := o.cheapest()
		if !ok || least < 0 {
			continue
		}
		if len(trees) > 1 {
			more++
		} else {
			one++
		}
		checkWood(t, o, trees)
	}
	if one < 100 || more < 100 {
		t.Error("too few woods of a kind:", one, more)
	}
}

func TestNextOfAllTrees(t *testing.T) {
	d := dice(53)
	var some, none int
	for range 1500 {
		o := newOracle(d.grammar(), d.mark(4))
		least := o.least(o.whole(), 0)
		if least < 0 || least == far {
			continue
		}
		want := o.least(o.whole(), least)
		n, e := chalk.Next(o.g, o.mark)
		switch {
		case want == least+far:
			none++
			if e != api.ErrNone && n < want || e == api.ErrNone && n != 0 {
				t.Fatalf("P3.7, P3.15: %+v: %v: next %d, error %d, and there is none", o.g, o.mark, n, e)
			}
		case e != api.OK || n != want:
			t.Fatalf("P3.7, P3.15: %+v: %v: next %d, error %d, want %d", o.g, o.mark, n, e, want)
		default:
			some++
		}
	}
	if some < 300 || none < 20 {
		t.Error("too few grammars of a kind:", some, none)
	}
}

func TestNeededOfAllMakings(t *testing.T) {
	d := dice(59)
	for range 600 {
		g, mark := d.grammar(), d.mark(6)
		whole := api.Place{Symbol: g.Start, To: len(mark)}
		least, e := chalk.Least(g, mark, whole)
		if e != api.OK {
			continue
		}
		var want []int
		for i := range g.Makings {
			less, e := chalk.Without(g, i)
			n, f := chalk.Least(less, mark, whole)
			if e != api.OK || f == api.ErrNone || n > least {
				want = append(want, i)
			}
		}
		if l, e := chalk.Needed(g, mark); e != api.OK || !slices.Equal(l, want) {
			t.Fatalf("P3.8: %+v: %v: needed %v, error %d, want %v", g, mark, l, e, want)
		}
	}
}

func TestWoodsAgree(t *testing.T) {
	d := dice(61)
	for range 400 {
		g, mark := d.grammar(), d.mark(8)
		tree, _, e := chalk.Read(g, mark)
		if e != api.OK {
			continue
		}
		possible, e1 := chalk.Possible(g, mark)
		sure, e2 := chalk.Sure(g, mark)
		n, e3 := chalk.Count(g, mark)
		if e1 != api.OK || e2 != api.OK || e3 != api.OK || n < 1 {
			t.Fatalf("P3.14: %+v: %v: errors %d, %d and %d", g, mark, e1, e2, e3)
		}
		has := places(g, tree)
		for _, p := range sure {
			if !slices.Contains(possible, p) || !has[p] {
				t.Fatalf("P3.14: %+v: %v: %v is sure, possible are %v, and a tree has %v", g, mark, p, possible, has)
			}
		}
		if !slices.Contains(sure, api.Place{Symbol: g.Start, To: len(mark)}) || n == 1 && !slices.Equal(sure, possible) {
			t.Fatalf("P3.14: %+v: %v: count %d, sure %v, possible %v", g, mark, n, sure, possible)
		}
		needed, e := chalk.Needed(g, mark)
		for _, i := range needed {
			if e != api.OK || !makings(tree)[i] {
				t.Fatalf("P3.15: %+v: %v: %d is needed, and the tree %v is a cheapest one", g, mark, i, tree)
			}
		}
	}
}

// twos returns a grammar with 3 * 3 * 2 leaves, each of which is made in 2 ways, and with some ways to begin.
func twos(begin int) api.Grammar {
	g := api.Grammar{Symbols: 4, Start: 1, Other: 1, Missed: 1, Added: 1, Smudged: 1}
	for range begin {
		g.Makings = append(g.Makings, api.Making{Symbol: 1, Items: []int{2, 2, 2}, Cost: 1})
	}
	g.Makings = append(g.Makings, api.Making{Symbol: 2, Items: []int{3, 3, 3}, Cost: 1}, api.Making{Symbol: 3, Items: []int{4, 4}, Cost: 1})
	for range 2 {
		g.Makings = append(g.Makings, api.Making{Symbol: 4, Cost: 1})
	}
	return g
}

func TestCountOfMany(t *testing.T) {
	for _, x := range []struct{ begin, want int }{{1, 1 << 18}, {3, 3 << 18}, {4, 1 << 20}, {5, 1 << 20}, {20, 1 << 20}} {
		if n, e := chalk.Count(twos(x.begin), nil); e != api.OK || n != x.want {
			t.Errorf("P3.7: count with %d ways to begin: %d, error %d, want %d", x.begin, n, e, x.want)
		}
	}
	g := dear()
	g.Makings = append(g.Makings, g.Makings...)
	if n, e := chalk.Count(g, slices.Repeat([]int{2}, 16)); e != api.OK || n != 1<<20 {
		t.Error("P3.7: count of very many:", n, e)
	}
}

func TestCountOfParts(t *testing.T) {
	// It is the same what costs the same: two parts, or two makings, are two trees.
	g := api.Grammar{Symbols: 1, Start: 1, Other: 5, Missed: 5, Added: 5, Smudged: 5, Makings: []api.Making{{Symbol: 1, Items: []int{-1, -1}, Cost: 1}}}
	for _, x := range []struct {
		mark []int
		want int
	}{{[]int{1, 1}, 1}, {[]int{1}, 2}, {nil, 1}, {[]int{1, 1, 1}, 2}, {[]int{2, 1, 1}, 1}, {[]int{1, 2, 1}, 2}} {
		if n, e := chalk.Count(g, x.mark); e != api.OK || n != x.want {
			t.Errorf("P3.7: count of %v: %d, error %d, want %d", x.mark, n, e, x.want)
		}
	}
	g.Makings = append(g.Makings, g.Makings[0])
	if n, e := chalk.Count(g, []int{1}); e != api.OK || n != 4 {
		t.Error("P3.7: count of two makings that are the same:", n, e)
	}
	if l, e := chalk.Needed(g, []int{1, 1}); e != api.OK || len(l) > 0 {
		t.Error("P3.8: none of two makings that are the same:", l, e)
	}
}

func TestNext(t *testing.T) {
	one := api.Grammar{Symbols: 3, Start: 1, Other: 5, Missed: 6, Added: 7, Smudged: 8, Makings: []api.Making{{Symbol: 1, Items: []int{2}, Cost: 1}, {Symbol: 2, Items: []int{-1}, Cost: 2}}}
	for i, x := range []struct {
		add  []api.Making
		want int
		e    api.Errno
	}{
		{nil, 0, api.ErrNone},
		{[]api.Making{{Symbol: 2, Items: []int{-1}, Cost: 2}}, 0, api.ErrNone},
		{[]api.Making{{Symbol: 1, Items: []int{3}, Cost: 1}, {Symbol: 3, Items: []int{3}, Cost: 1}}, 0, api.ErrNone},
		{[]api.Making{{Symbol: 2, Items: []int{-1}, Cost: 2}, {Symbol: 2, Items: []int{-1}, Cost: 9}}, 10, api.OK},
		{[]api.Making{{Symbol: 1, Items: []int{2}, Cost: 8}}, 10, api.OK},
		{[]api.Making{{Symbol: 1, Items: []int{2}, Cost: 8}, {Symbol: 2, Items: []int{-1}, Cost: 8}}, 9, api.OK},
		{[]api.Making{{Symbol: 2, Items: []int{2}, Cost: 4}}, 7, api.OK},
		{[]api.Making{{Symbol: 2, Items: []int{-2}, Cost: 2}}, 8, api.OK},
		{[]api.Making{{Symbol: 2, Items: []int{-1, -1}, Cost: 2}}, 9, api.OK},
		{[]api.Making{{Symbol: 1, Cost: 1}}, 8, api.OK},
	} {
		g := one
		g.Makings = slices.Concat(one.Makings, x.add)
		if n, e := chalk.Next(g, []int{1}); e != x.e || n != x.want {
			t.Errorf("P3.7: next %d: %d, error %d, want %d, error %d", i, n, e, x.want, x.e)
		}
	}
}

func TestLargestWood(t *testing.T) {
	// All ways to divide all parts cost the same.
	g := api.Grammar{Symbols: 12, Start: 1, Other: 1000, Missed: 1000, Added: 1, Smudged: 1000}
	for s := 1; s < 12; s++ {
		for range 2 {
			g.Makings = append(g.Makings, api.Making{Symbol: s, Items: []int{s + 1, s + 1, s + 1}, Cost: 1})
		}
	}
	g.Makings = append(g.Makings, api.Making{Symbol: 12, Cost: 1})
	mark := slices.Repeat([]int{1}, 16)
	costs(t, "P3.3", g, mark, (531441-1)/2+16)
	if l, e := chalk.Possible(g, mark); e != api.OK || len(l) != 1+11*153 {
		t.Error("P3.6: possible:", len(l), e)
	}
	if l, e := chalk.Sure(g, mark); e != api.OK || !slices.Equal(l, []api.Place{{Symbol: 1, From: 0, To: 16}}) {
		t.Error("P3.6: sure:", l, e)
	}
	if l, e := chalk.Needed(g, mark); e != api.OK || !slices.Equal(l, []int{22}) {
		t.Error("P3.8: needed:", l, e)
	}
	if n, e := chalk.Count(g, mark); e != api.OK || n != 1<<20 {
		t.Error("P3.7: count:", n, e)
	}
	if n, e := chalk.Next(g, mark); e != api.ErrNone || n != 0 {
		t.Error("P3.7: next:", n, e)
	}
}
