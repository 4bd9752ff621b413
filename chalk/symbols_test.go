package chalk_test

import (
	"math"
	"reflect"
	"slices"
	"testing"

	"potence/api"
	"potence/chalk"
)

func TestUseless(t *testing.T) {
	for i, x := range []struct {
		g    api.Grammar
		want []int
	}{
		{example(), nil},
		{changed(func(g *api.Grammar) { g.Makings = g.Makings[1:] }), []int{2}},
		{changed(func(g *api.Grammar) { g.Makings = nil }), []int{1, 2}},
		{changed(func(g *api.Grammar) { g.Makings = g.Makings[:2] }), []int{1, 2}},
		{changed(func(g *api.Grammar) { g.Symbols = 3 }), []int{3}},
		{changed(func(g *api.Grammar) { g.Start = 2 }), []int{1}},
		{changed(func(g *api.Grammar) { g.Makings = []api.Making{{Symbol: 1, Items: []int{1}, Cost: 1}} }), []int{1, 2}},
		{changed(func(g *api.Grammar) { // an item without a tree takes the other items with it
			g.Symbols, g.Makings = 4, append(g.Makings, api.Making{Symbol: 1, Items: []int{3, -1, 4}, Cost: 1}, api.Making{Symbol: 3, Cost: 1})
		}), []int{3, 4}},
		{changed(func(g *api.Grammar) { // found only behind others
			g.Symbols, g.Makings = 4, append(g.Makings, api.Making{Symbol: 4, Cost: 1}, api.Making{Symbol: 3, Items: []int{4}, Cost: 1}, api.Making{Symbol: 2, Items: []int{3, 2}, Cost: 1})
		}), nil},
	} {
		if l, e := chalk.Useless(x.g); e != api.OK || !slices.Equal(l, x.want) {
			t.Errorf("P3.9: useless %d: %v, error %d, want %v", i, l, e, x.want)
		}
	}
}

func TestShortest(t *testing.T) {
	for i, x := range []struct {
		g    api.Grammar
		want []int
	}{
		{example(), []int{0, 1}},
		{changed(func(g *api.Grammar) { g.Makings = g.Makings[:3] }), []int{2, 1}},
		{changed(func(g *api.Grammar) { g.Makings = g.Makings[:2] }), []int{-1, -1}},
		{changed(func(g *api.Grammar) { g.Makings = nil }), []int{-1, -1}},
		{changed(func(g *api.Grammar) { g.Symbols = 4 }), []int{0, 1, -1, -1}},
		{changed(func(g *api.Grammar) { g.Makings[3].Items = []int{-1, -1, -1} }), []int{2, 1}},
		{changed(func(g *api.Grammar) { g.Makings[3].Items = []int{1, 1, 1} }), []int{2, 1}},
		{dear(), []int{531441, 177147, 59049, 19683, 6561, 2187, 729, 243, 81, 27, 9, 3}},
	} {
		if l, e := chalk.Shortest(x.g); e != api.OK || !slices.Equal(l, x.want) {
			t.Errorf("P3.9: shortest %d: %v, error %d, want %v", i, l, e, x.want)
		}
	}
}

// shortest returns the least number of strokes of the trees of a symbol that have at most so many makings one below the other, -1 if there are none.
func (o *oracle) shortest(symbol, depth int) int {
	least := -1
making:
	for _, m := range o.g.Makings {
		if m.Symbol != symbol || depth == 0 {
			continue
		}
		sum := 0
		for _, x := range m.Items {
			n := 1
			if x > 0 {
				n = o.shortest(x, depth-1)
			}
			if n < 0 {
				continue making
			}
			sum += n
		}
		if least < 0 || sum < least {
			least = sum
		}
	}
	return least
}

// occurs says whether a symbol occurs in a tree of another one in which it comes at most so many makings below.
func (o *oracle) occurs(symbol, in, depth int) bool {
	if symbol == in || depth == 0 {
		return symbol == in && o.exists(symbol, o.g.Symbols)
	}
	for _, m := range o.g.Makings {
		if m.Symbol != in || slices.ContainsFunc(m.Items, func(x int) bool { return x > 0 && !o.exists(x, o.g.Symbols) }) {
			continue
		}
		if slices.ContainsFunc(m.Items, func(x int) bool { return x > 0 && o.occurs(symbol, x, depth-1) }) {
			return true
		}
	}
	return false
}

func TestSymbolsOfAllTrees(t *testing.T) {
	d := dice(67)
	for range 1500 {
		o := newOracle(d.grammar(), nil)
		var useless, shortest []int
		for s := 1; s <= o.g.Symbols; s++ {
			shortest = append(shortest, o.shortest(s, o.g.Symbols))
			if !o.occurs(s, o.g.Start, o.g.Symbols) {
				useless = append(useless, s)
			}
		}
		if l, e := chalk.Useless(o.g); e != api.OK || !slices.Equal(l, useless) {
			t.Fatalf("P3.9: %+v: useless %v, error %d, want %v", o.g, l, e, useless)
		}
		if l, e := chalk.Shortest(o.g); e != api.OK || !slices.Equal(l, shortest) {
			t.Fatalf("P3.9: %+v: shortest %v, error %d, want %v", o.g, l, e, shortest)
		}
	}
}

func TestWithout(t *testing.T) {
	for i := range example().Makings {
		g := example()
		less, e := chalk.Without(g, i)
		want := example()
		want.Makings = slices.Delete(want.Makings, i, i+1)
		if e != api.OK || !same(less, want) || !same(g, example()) {
			t.Errorf("P3.9: without %d: %+v, error %d, of %+v", i, less, e, g)
		}
		for j, m := range less.Makings {
			for k := range m.Items {
				m.Items[k] = 7
			}
			less.Makings[j].Cost = 77
		}
		if !same(g, example()) {
			t.Errorf("R6: the grammar without %d shares memory: %+v", i, g)
		}
	}
	for _, i := range []int{-1, 4, math.MaxInt, math.MinInt} {
		if less, e := chalk.Without(example(), i); e != api.ErrArg || !same(less, api.Grammar{}) {
			t.Errorf("P3.9: without %d: %+v, error %d", i, less, e)
		}
	}
	if less, e := chalk.Without(changed(func(g *api.Grammar) { g.Makings = nil }), 0); e != api.ErrArg || !same(less, api.Grammar{}) {
		t.Errorf("P3.9: without 0 of none: %+v, error %d", less, e)
	}
}

// same says whether two grammars are the same; an empty list is the same as none.
func same(g, h api.Grammar) bool {
	makings := slices.EqualFunc(g.Makings, h.Makings, func(m, n api.Making) bool {
		return m.Symbol == n.Symbol && m.Cost == n.Cost && slices.Equal(m.Items, n.Items)
	})
	g.Makings, h.Makings = nil, nil
	return makings && reflect.DeepEqual(g, h)
}

// all returns what the functions tell of a mark, but for the table and the makings of trees.
func all(g api.Grammar, mark []int) []any {
	_, n, e := chalk.Read(g, mark)
	l := []any{n, e}
	for _, c := range withMark(false) {
		if slices.Contains([]string{"Possible", "Sure", "Count", "Next"}, c.name) {
			x, e := c.do(g, mark)
			l = append(l, x, e)
		}
	}
	needed, e := chalk.Needed(g, mark)
	return append(l, len(needed), e)
}

func TestUselessMakings(t *testing.T) {
	d := dice(71)
	some := 0
	for range 1500 {
		g, mark := d.grammar(), d.mark(5)
		useless, e := chalk.Useless(g)
		for i, m := range g.Makings {
			if !slices.Contains(useless, m.Symbol) {
				continue
			}
			some++
			less, f := chalk.Without(g, i)
			still, h := chalk.Useless(less)
			if e != api.OK || f != api.OK || h != api.OK || !slices.Equal(still, useless) {
				t.Fatalf("P3.16: %+v without %d: useless are %v, and were %v", g, i, still, useless)
			}
			if x, y := all(g, mark), all(less, mark); !reflect.DeepEqual(x, y) {
				t.Fatalf("P3.16: %+v: %v: without %d %v, and %v with it", g, mark, i, y, x)
			}
		}
		shortest, f := chalk.Shortest(g)
		_, _, h := chalk.Read(g, mark)
		if f != api.OK || (h != api.OK) != (shortest[g.Start-1] == -1) || h != api.OK && h != api.ErrNone {
			t.Fatalf("P3.16: %+v: %v: shortest %v, and read has the error %d", g, mark, shortest, h)
		}
	}
	if some < 300 {
		t.Error("too few useless makings:", some)
	}
}

// spread returns a list with room behind its end that holds something.
func spread[T any](l []T, x T) ([]T, []T) {
	all := append(slices.Clone(l), x, x)
	return all[:len(l)], all
}

func TestArgumentsStayTheSame(t *testing.T) {
	g, mark, tree := example(), []int{1, 2, 0}, exampleTree()
	var makings, boughs any
	var rooms []any
	for i, m := range g.Makings {
		items, room := spread(m.Items, 99)
		g.Makings[i].Items = items
		rooms = append(rooms, room)
	}
	g.Makings, makings = spread(g.Makings, api.Making{Symbol: 99})
	tree, boughs = spread(tree, api.Bough{Making: 99})
	mark, room := spread(mark, 99)
	rooms = append(rooms, room, makings, boughs)
	c := table(t, g, mark)
	for i, l := range c.Least {
		list, room := spread(l, 99)
		c.Least[i] = list
		rooms = append(rooms, room)
	}
	before := copyOf(rooms)
	for _, f := range append(withMark(false), withGrammar()...) {
		f.do(g, mark)
	}
	chalk.Without(g, 1)
	chalk.CheckTable(g, mark, c)
	chalk.CheckTree(g, mark, tree)
	chalk.CheckRead(g, mark, tree, c)
	chalk.Meant(g, mark, tree)
	chalk.Text(mark)
	if !reflect.DeepEqual(rooms, before) {
		t.Errorf("R6: the arguments were %v, and are %v", before, rooms)
	}
}

// copyOf returns a copy of lists.
func copyOf(rooms []any) []any {
	var all []any
	for _, x := range rooms {
		switch x := x.(type) {
		case []int:
			all = append(all, slices.Clone(x))
		case []api.Bough:
			all = append(all, slices.Clone(x))
		case []api.Making:
			l := slices.Clone(x)
			for i := range l {
				l[i].Items = slices.Clone(l[i].Items)
			}
			all = append(all, l)
		}
	}
	return all
}

func TestResultsAreNew(t *testing.T) {
	g, mark := example(), []int{1, 2, 2}
	for _, c := range append(withMark(false), withGrammar()...) {
		x, e := c.do(g, mark)
		spoil(x)
		y, f := c.do(g, mark)
		spoil(y)
		z, h := c.do(g, mark)
		if e != f || f != h || c.name != "Without" && c.name != "CheckTable" && c.name != "CheckRead" && e != api.OK {
			t.Errorf("R6: %s: errors %d, %d and %d", c.name, e, f, h)
		}
		w, _ := c.do(example(), []int{1, 2, 2})
		if !reflect.DeepEqual(z, w) {
			t.Errorf("R6, R7: %s: %v, and %v before", c.name, z, w)
		}
	}
	c := table(t, g, mark)
	for i, l := range c.Least {
		_ = append(l, 99)
		if i+1 < len(c.Least) && c.Least[i+1][0] == 99 {
			t.Error("R6: the lists of a table share memory")
		}
	}
}

// spoil changes what is in a list.
func spoil(x any) {
	switch x := x.(type) {
	case []int:
		for i := range x {
			x[i] = -99
		}
	case [][]int:
		for _, l := range x {
			spoil(l)
		}
	case []api.Bough:
		clear(x)
	case []api.Place:
		clear(x)
	}
}
