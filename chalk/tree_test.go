package chalk_test

import (
	"math"
	"slices"
	"testing"

	"potence/api"
	"potence/chalk"
)

// read returns a cheapest tree of a mark, and its cost.
func read(t *testing.T, g api.Grammar, mark []int) ([]api.Bough, int) {
	t.Helper()
	tree, n, e := chalk.Read(g, mark)
	if e != api.OK {
		t.Fatalf("P3.5: read of %v by %+v: error %d", mark, g, e)
	}
	return tree, n
}

func TestRead(t *testing.T) {
	g := example()
	for _, x := range []struct {
		mark []int
		tree []api.Bough
		cost int
	}{
		{[]int{1, 2, 2}, exampleTree(), 4},
		{[]int{1, 2}, []api.Bough{{Making: 0, From: 0, To: 2}, {Making: -1, From: 0, To: 1}, {Making: 2, From: 1, To: 2}, {Making: -1, From: 1, To: 2}}, 3},
		{[]int{2}, []api.Bough{{Making: 0, From: 0, To: 1}, {Making: -1, From: 0, To: 0}, {Making: 2, From: 0, To: 1}, {Making: -1, From: 0, To: 1}}, 7},
		{nil, []api.Bough{{Making: 3, From: 0, To: 0}}, 9},
	} {
		tree, n := read(t, g, x.mark)
		if n != x.cost || !slices.Equal(tree, x.tree) {
			t.Errorf("P3.5: read of %v: %v, cost %d; want %v, cost %d", x.mark, tree, n, x.tree, x.cost)
		}
	}
}

func TestReadErrors(t *testing.T) {
	for _, g := range []api.Grammar{
		changed(func(g *api.Grammar) { g.Makings = nil }),
		changed(func(g *api.Grammar) { g.Makings = g.Makings[:2] }),
		changed(func(g *api.Grammar) { g.Makings = g.Makings[1:3] }),
		changed(func(g *api.Grammar) { g.Start, g.Makings = 2, g.Makings[3:] }),
		changed(func(g *api.Grammar) { g.Makings = []api.Making{{Symbol: 1, Items: []int{1}, Cost: 1}} }),
	} {
		for _, mark := range [][]int{nil, {1, 2, 2}} {
			if tree, n, e := chalk.Read(g, mark); e != api.ErrNone || n != 0 || len(tree) > 0 {
				t.Errorf("P3.5: read of %v by %+v: %v, cost %d, error %d", mark, g, tree, n, e)
			}
		}
	}
}

// sized returns a grammar whose only tree of the empty mark has 200 boughs by the symbol 11, and 201 by the symbol 12.
func sized() api.Grammar {
	g := api.Grammar{Symbols: 12, Start: 11, Other: 1, Missed: 1, Added: 1, Smudged: 1}
	for s, items := range [][]int{1: nil, 2: {1, 1, 1}, 3: {2, 2, 2}, 4: {3, 3, 3}, 5: {4, 4, 4}, 6: {1, -1}, 7: {2, 2, 6}, 8: {3, 3, 7}, 9: {9}, 11: {5, 8, 8}, 12: {5, 4, 8}} {
		if s > 0 && s != 10 {
			g.Makings = append(g.Makings, api.Making{Symbol: s, Items: items, Cost: 1})
		}
	}
	return g
}

func TestLargeTrees(t *testing.T) {
	g := sized()
	tree, n := read(t, g, nil)
	if m, e := chalk.CheckTree(g, nil, tree); len(tree) != 200 || e != api.OK || m != n {
		t.Error("P3.5: 200 boughs:", len(tree), n, m, e)
	}
	fails(t, "P3.5: 200 boughs", chalk.CheckRead(g, nil, tree, table(t, g, nil)), api.OK)
	g.Start = 12
	if tree, n, e := chalk.Read(g, nil); e != api.ErrLimit || n != 0 || len(tree) > 0 {
		t.Error("P3.5: 201 boughs:", len(tree), n, e)
	}
	if tree, n, e := chalk.Read(dear(), []int{1}); e != api.ErrLimit || n != 0 || len(tree) > 0 {
		t.Error("P3.5: many boughs:", len(tree), n, e)
	}
	// A cheapest tree that is small counts, though another one is too large.
	g.Makings = append(g.Makings, api.Making{Symbol: 12, Items: nil, Cost: 1})
	if tree, n, e := chalk.Read(g, nil); e != api.OK || n != 1 || len(tree) != 1 {
		t.Error("P3.5: a small tree:", tree, n, e)
	}
	last := &g.Makings[len(g.Makings)-1]
	last.Cost, _ = chalk.Least(sized(), nil, api.Place{Symbol: 12})
	if tree, n, e := chalk.Read(g, nil); e != api.OK || n != last.Cost || len(tree) != 1 {
		t.Error("P3.5: a small tree that costs the same:", len(tree), n, e)
	}
	last.Cost++
	if _, _, e := chalk.Read(g, nil); e != api.ErrLimit {
		t.Error("P3.5: a small tree that costs more:", e)
	}
}

// lengths returns the least length of some trees, and the greatest.
func lengths(trees [][]api.Bough) (int, int) {
	least, most := math.MaxInt, 0
	for _, tree := range trees {
		least, most = min(least, len(tree)), max(most, len(tree))
	}
	return least, most
}

func TestReadingsOfAllTrees(t *testing.T) {
	d := dice(31)
	var some, unlike int
	for range 1500 {
		o := newOracle(d.grammar(), d.mark(4))
		trees, least, ok := o.cheapest()
		if !ok {
			continue
		}
		tree, n, e := chalk.Read(o.g, o.mark)
		if least < 0 {
			if e != api.ErrNone || len(tree) > 0 || n != 0 {
				t.Fatalf("P3.5: %+v: %v: %v, cost %d, error %d, and there is no tree", o.g, o.mark, tree, n, e)
			}
			continue
		}
		some++
		fewest, most := lengths(trees)
		if fewest < most {
			unlike++
		}
		is := slices.ContainsFunc(trees, func(x []api.Bough) bool { return slices.Equal(x, tree) })
		if e != api.OK || n != least || len(tree) != fewest || !is {
			t.Fatalf("P3.5, T3: %+v: %v: %v, cost %d, error %d; want cost %d, %d boughs", o.g, o.mark, tree, n, e, least, fewest)
		}
		if m, e := chalk.CheckTree(o.g, o.mark, tree); e != api.OK || m != n {
			t.Fatalf("P3.10: %+v: %v: the tree %v costs %d, error %d; want %d", o.g, o.mark, tree, m, e, n)
		}
		fails(t, "P3.10: CheckRead of Read", chalk.CheckRead(o.g, o.mark, tree, table(t, o.g, o.mark)), api.OK)
	}
	if some < 400 || unlike < 40 {
		t.Error("too few grammars of a kind:", some, unlike)
	}
}

func TestCheckTree(t *testing.T) {
	g, mark := example(), []int{1, 2, 2}
	for i, x := range []struct {
		tree []api.Bough
		cost int
	}{
		{exampleTree(), 4},
		{[]api.Bough{{Making: 3, From: 0, To: 3}}, 18},
		{[]api.Bough{{Making: 0, From: 0, To: 3}, {Making: -1, From: 0, To: 1}, {Making: 2, From: 1, To: 3}, {Making: -1, From: 1, To: 3}}, 6},
		{[]api.Bough{{Making: 0, From: 0, To: 3}, {Making: -1, From: 0, To: 0}, {Making: 2, From: 0, To: 3}, {Making: -1, From: 0, To: 3}}, 13},
		{[]api.Bough{{Making: 0, From: 0, To: 3}, {Making: -1, From: 0, To: 3}, {Making: 2, From: 3, To: 3}, {Making: -1, From: 3, To: 3}}, 13},
	} {
		if n, e := chalk.CheckTree(g, mark, x.tree); e != api.OK || n != x.cost {
			t.Errorf("P3.5: tree %d: cost %d, error %d, want %d", i, n, e, x.cost)
		}
	}
}

func TestNoTrees(t *testing.T) {
	g, mark := example(), []int{1, 2, 2}
	b := func(making, from, to int) api.Bough { return api.Bough{Making: making, From: from, To: to} }
	for i, tree := range [][]api.Bough{
		nil,
		{b(-1, 0, 3)},
		{b(-2, 0, 3)},
		{b(4, 0, 3)},
		{b(math.MaxInt, 0, 3)},
		{b(math.MinInt, 0, 3)},
		{b(3, 0, 2)},
		{b(3, 0, 4)},
		{b(3, 1, 3)},
		{b(3, -1, 3)},
		{b(3, 0, -1)},
		{b(3, 0, math.MaxInt)},
		{b(3, math.MinInt, 3)},
		{b(3, 0, 3), b(3, 3, 3)},
		{b(3, 0, 3), b(-1, 3, 3)},
		{b(2, 0, 3), b(-1, 0, 3)},
		{b(0, 0, 3)},
		{b(0, 0, 3), b(-1, 0, 1)},
		{b(0, 0, 3), b(-1, 0, 1), b(2, 1, 3)},
		{b(0, 0, 3), b(-1, 0, 1), b(2, 1, 2), b(-1, 1, 2)},
		{b(0, 0, 3), b(-1, 0, 1), b(2, 2, 3), b(-1, 2, 3)},
		{b(0, 0, 3), b(-1, 0, 2), b(2, 1, 3), b(-1, 1, 3)},
		{b(0, 0, 3), b(-1, 0, 1), b(2, 1, 4), b(-1, 1, 4)},
		{b(0, 0, 3), b(-1, 0, 1), b(2, 1, 3), b(-1, 1, 2)},
		{b(0, 0, 3), b(-1, 0, 1), b(2, 1, 3), b(-1, 2, 3)},
		{b(0, 0, 3), b(-1, 0, 1), b(2, 1, 2), b(-1, 1, 3)},
		{b(0, 0, 3), b(-1, 0, 1), b(3, 1, 3)},
		{b(0, 0, 3), b(-1, 0, 1), b(-1, 1, 3)},
		{b(0, 0, 3), b(2, 0, 1), b(2, 1, 3), b(-1, 1, 3)},
		{b(0, 0, 3), b(-2, 0, 1), b(2, 1, 3), b(-1, 1, 3)},
		{b(0, 0, 3), b(4, 0, 1), b(2, 1, 3), b(-1, 1, 3)},
		{b(0, 0, 3), b(-1, 0, -1), b(2, -1, 3), b(-1, -1, 3)},
		{b(0, 0, 3), b(-1, 0, 4), b(2, 4, 3), b(-1, 4, 3)},
		{b(0, 0, 3), b(-1, 0, 17), b(2, 17, 3), b(-1, 17, 3)},
		{b(0, 0, 3), b(-1, 0, math.MaxInt), b(2, math.MaxInt, 3), b(-1, math.MaxInt, 3)},
		{b(0, 0, 3), b(-1, 0, math.MinInt), b(2, math.MinInt, 3), b(-1, math.MinInt, 3)},
		{b(0, 0, 3), b(-1, 0, 1), b(2, 1, 3), b(-1, 1, 3), b(-1, 3, 3)},
		exampleTree()[:5],
		exampleTree()[1:],
		append(exampleTree(), exampleTree()...),
		make([]api.Bough, 200),
	} {
		if n, e := chalk.CheckTree(g, mark, tree); e != api.ErrProof || n != 0 {
			t.Errorf("P3.5: tree %d: cost %d, error %d", i, n, e)
		}
		if s, e := chalk.Meant(g, mark, tree); e != api.ErrProof || len(s) > 0 {
			t.Errorf("P3.5: meant by tree %d: %v, error %d", i, s, e)
		}
		fails(t, "P3.5: CheckRead of no tree", chalk.CheckRead(g, mark, tree, table(t, g, mark)), api.ErrProof)
	}
	for _, tree := range [][]api.Bough{make([]api.Bough, 201), append(exampleTree(), make([]api.Bough, 195)...)} {
		if n, e := chalk.CheckTree(g, mark, tree); e != api.ErrLimit || n != 0 {
			t.Errorf("P3.5: 201 boughs: cost %d, error %d", n, e)
		}
		if s, e := chalk.Meant(g, mark, tree); e != api.ErrLimit || len(s) > 0 {
			t.Errorf("P3.5: 201 boughs: meant %v, error %d", s, e)
		}
		fails(t, "P3.5: 201 boughs", chalk.CheckRead(g, mark, tree, api.Costs{}), api.ErrLimit)
	}
}

// bend changes a tree a little.
func (d *dice) bend(tree []api.Bough) []api.Bough {
	tree = slices.Clone(tree)
	i := d.roll(len(tree))
	switch d.roll(6) {
	case 0:
		tree[i].Making = d.roll(10) - 2
	case 1:
		tree[i].From += d.roll(3) - 1
	case 2:
		tree[i].To += d.roll(3) - 1
	case 3:
		return slices.Delete(tree, i, i+1)
	case 4:
		return slices.Insert(tree, i, tree[d.roll(len(tree))])
	default: // where two of them meet
		to := tree[i].To
		for j := i; j < len(tree); j++ {
			if tree[j].To == to {
				tree[j].To++
			}
			if tree[j].From == to {
				tree[j].From++
			}
		}
	}
	return tree
}

func TestBentTrees(t *testing.T) {
	d := dice(37)
	var trees, others int
	for range 1500 {
		o := newOracle(d.grammar(), d.mark(5))
		tree, _, e := chalk.Read(o.g, o.mark)
		if e != api.OK {
			continue
		}
		c := table(t, o.g, o.mark)
		least := c.Least[o.g.Start-1][o.index(0, len(o.mark))]
		for range 20 {
			bent := d.bend(tree)
			cost, meant, ok := o.isTree(bent)
			n, e := chalk.CheckTree(o.g, o.mark, bent)
			s, f := chalk.Meant(o.g, o.mark, bent)
			k := chalk.CheckRead(o.g, o.mark, bent, c)
			if !ok {
				others++
				if e != api.ErrProof || f != api.ErrProof || k != api.ErrProof || n != 0 || len(s) > 0 {
					t.Fatalf("P3.5: %+v: %v: %v is no tree: cost %d, meant %v, errors %d, %d and %d", o.g, o.mark, bent, n, s, e, f, k)
				}
				continue
			}
			trees++
			if e != api.OK || f != api.OK || n != cost || !slices.Equal(s, meant) || (k == api.OK) != (n == least) {
				t.Fatalf("P3.5: %+v: %v: %v: cost %d, meant %v, errors %d, %d and %d; want %d and %v", o.g, o.mark, bent, n, s, e, f, k, cost, meant)
			}
		}
	}
	if trees < 500 || others < 5000 {
		t.Error("too few trees of a kind:", trees, others)
	}
}

func TestCheckRead(t *testing.T) {
	g, mark := example(), []int{1, 2, 2}
	dear := []api.Bough{{Making: 3, From: 0, To: 3}}
	for i, x := range []struct {
		tree   []api.Bough
		change func(c *api.Costs)
		e      api.Errno
	}{
		{exampleTree(), func(c *api.Costs) {}, api.OK},
		{dear, func(c *api.Costs) {}, api.ErrProof},
		{nil, func(c *api.Costs) {}, api.ErrProof},
		{exampleTree(), func(c *api.Costs) { c.Least[0][3]-- }, api.ErrProof},
		{exampleTree(), func(c *api.Costs) { c.Least[0][3]++ }, api.ErrProof},
		{exampleTree(), func(c *api.Costs) { c.Least[0][3] = -1 }, api.ErrProof},
		{dear, func(c *api.Costs) { c.Least[0][3] = 18 }, api.ErrProof},
		{exampleTree(), func(c *api.Costs) { c.Least[0][0] = 0 }, api.OK},
		{exampleTree(), func(c *api.Costs) { c.Least[0][1]++ }, api.ErrProof},
		{exampleTree(), func(c *api.Costs) { c.Least[1][0] = -1 }, api.ErrProof},
		{exampleTree(), func(c *api.Costs) { c.Least[1][5]-- }, api.ErrProof},
		{exampleTree(), func(c *api.Costs) { c.Least = c.Least[:1] }, api.ErrProof},
		{exampleTree(), func(c *api.Costs) { c.Least = nil }, api.ErrProof},
		{exampleTree(), func(c *api.Costs) { c.Least[1] = append(c.Least[1], 0) }, api.ErrProof},
	} {
		c := table(t, g, mark)
		x.change(&c)
		if e := chalk.CheckRead(g, mark, x.tree, c); e != x.e {
			t.Errorf("P3.5: tree and table %d: error %d, want %d", i, e, x.e)
		}
	}
}

func TestCheckedReadings(t *testing.T) {
	d := dice(41)
	var taken, refused int
	for range 3000 {
		o := newOracle(d.grammar(), d.mark(3))
		tree, least, e := chalk.Read(o.g, o.mark)
		if e != api.OK {
			continue
		}
		c := table(t, o.g, o.mark)
		if d.roll(4) > 0 {
			d.alter(c)
		}
		bent := d.bend(tree)
		if d.roll(2) == 0 {
			bent = tree
		}
		cost, _, ok := o.isTree(bent)
		want := api.ErrProof
		if ok && o.proves(c) && c.Least[o.g.Start-1][o.index(0, len(o.mark))] == cost {
			want = api.OK
		}
		if e := chalk.CheckRead(o.g, o.mark, bent, c); e != want {
			t.Fatalf("P3.5: %+v: %v: %v with %v: error %d, want %d", o.g, o.mark, bent, c, e, want)
		}
		if want != api.OK {
			refused++
			continue
		}
		taken++
		if cost != least {
			t.Fatalf("P3.10, T3: %+v: %v: %v is accepted, costs %d, and a cheapest one %d", o.g, o.mark, bent, cost, least)
		}
	}
	if taken < 200 || refused < 200 {
		t.Error("too few readings of a kind:", taken, refused)
	}
}

func TestMeant(t *testing.T) {
	g := example()
	for _, x := range []struct {
		mark, meant []int
		tree        []api.Bough
	}{
		{[]int{1, 2, 2}, []int{1, 2, 2}, exampleTree()},
		{[]int{2, 0, 20}, []int{1, 2, 2}, exampleTree()},
		{[]int{1, 2, 2}, []int{1, 2}, []api.Bough{{Making: 0, From: 0, To: 3}, {Making: -1, From: 0, To: 1}, {Making: 2, From: 1, To: 3}, {Making: -1, From: 1, To: 3}}},
		{[]int{1, 2, 2}, nil, []api.Bough{{Making: 3, From: 0, To: 3}}},
	} {
		if s, e := chalk.Meant(g, x.mark, x.tree); e != api.OK || !slices.Equal(s, x.meant) {
			t.Errorf("P3.5: meant by %v of %v: %v, error %d, want %v", x.tree, x.mark, s, e, x.meant)
		}
	}
	g.Makings = []api.Making{{Symbol: 1, Items: []int{2, -3, 2}, Cost: 1}, {Symbol: 2, Items: []int{-20, -1}, Cost: 1}}
	mark := []int{20, 1, 3, 20, 1}
	tree, _ := read(t, g, mark)
	if s, e := chalk.Meant(g, mark, tree); e != api.OK || !slices.Equal(s, mark) {
		t.Error("P3.5: meant in order:", s, e)
	}
}

func TestMeantIsReadCheaply(t *testing.T) {
	d := dice(43)
	some := 0
	for range 1000 {
		o := newOracle(d.grammar(), d.mark(3))
		trees, least, ok := o.cheapest()
		if !ok || least < 0 {
			continue
		}
		if next := o.least(o.whole(), least); next < least+far && o.number(o.whole(), next) < enough {
			trees = append(trees, o.list(o.whole(), next)...)
		}
		for range 10 {
			tree := trees[d.roll(len(trees))]
			meant, e := chalk.Meant(o.g, o.mark, tree)
			_, want, _ := o.isTree(tree)
			if e != api.OK || !slices.Equal(meant, want) {
				t.Fatalf("P3.5: %+v: %v: %v means %v, error %d, want %v", o.g, o.mark, tree, meant, e, want)
			}
			if len(meant) > 16 {
				continue
			}
			most := 0
			for _, b := range tree {
				if b.Making >= 0 {
					most += o.g.Makings[b.Making].Cost
				}
			}
			some++
			n, e := chalk.Least(o.g, meant, api.Place{Symbol: o.g.Start, To: len(meant)})
			if e != api.OK || n > most {
				t.Fatalf("P3.12: %+v: %v is meant by %v: read at %d, error %d, and it costs %d", o.g, meant, tree, n, e, most)
			}
		}
	}
	if some < 1000 {
		t.Error("too few trees:", some)
	}
}
