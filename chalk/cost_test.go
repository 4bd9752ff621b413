package chalk_test

import (
	"math"
	"slices"
	"testing"

	"potence/api"
	"potence/chalk"
)

func TestStroke(t *testing.T) {
	g := example()
	for _, x := range []struct {
		mark             []int
		from, to, stroke int
		want             int
	}{
		{[]int{1, 2}, 0, 2, 2, 3},
		{[]int{1, 2}, 0, 0, 2, 4},
		{[]int{1, 2}, 1, 1, 1, 4},
		{[]int{1, 2}, 2, 2, 20, 4},
		{[]int{1, 2}, 0, 1, 1, 0},
		{[]int{1, 2}, 0, 1, 2, 5},
		{[]int{1, 0}, 1, 2, 2, 1},
		{[]int{1, 0}, 0, 2, 2, 4},
		{[]int{0, 1}, 0, 2, 1, 3},
		{[]int{1, 1, 1}, 0, 3, 2, 11},
		{nil, 0, 0, 7, 4},
	} {
		if n, e := chalk.Stroke(g, x.mark, x.from, x.to, x.stroke); e != api.OK || n != x.want {
			t.Errorf("P3.3: %v from %d to %d as %d: %d, error %d, want %d", x.mark, x.from, x.to, x.stroke, n, e, x.want)
		}
	}
	// To miss a stroke and to have others added can be cheaper than another one; so can another one than a smudged one.
	g.Other, g.Missed, g.Added, g.Smudged = 9, 2, 3, 7
	if n, e := chalk.Stroke(g, []int{1}, 0, 1, 2); e != api.OK || n != 5 {
		t.Error("P3.3: missed and added:", n, e)
	}
	g.Other = 4
	if n, e := chalk.Stroke(g, []int{0, 1}, 0, 2, 2); e != api.OK || n != 7 {
		t.Error("P3.3: another one and a smudged one:", n, e)
	}
}

func TestStrokeErrors(t *testing.T) {
	g := changed(func(g *api.Grammar) { g.Makings = nil })
	for _, x := range [][3]int{{-1, 0, 1}, {0, 3, 1}, {2, 1, 1}, {3, 3, 1}, {0, 2, 0}, {0, 2, -1}, {0, 2, 21}, {math.MinInt, 0, 1}, {0, math.MaxInt, 1}, {math.MaxInt, math.MinInt, 1}, {0, 0, math.MaxInt}, {0, 0, math.MinInt}} {
		if n, e := chalk.Stroke(g, []int{1, 2}, x[0], x[1], x[2]); e != api.ErrArg || n != 0 {
			t.Errorf("P3.3: %v: %d, error %d", x, n, e)
		}
	}
}

func TestEachStroke(t *testing.T) {
	d := dice(5)
	for range 300 {
		o := newOracle(d.grammar(), d.mark(6))
		for from := range len(o.mark) + 1 {
			for to := from; to <= len(o.mark); to++ {
				for s := 1; s <= 4; s++ {
					if n, e := chalk.Stroke(o.g, o.mark, from, to, s); e != api.OK || n != o.stroke(from, to, s) {
						t.Fatalf("P3.3: %+v: %v from %d to %d as %d: %d, error %d, want %d", o.g, o.mark, from, to, s, n, e, o.stroke(from, to, s))
					}
				}
			}
		}
	}
}

// costs reports a promise about the least cost of the whole mark.
func costs(t *testing.T, what string, g api.Grammar, mark []int, want int) {
	t.Helper()
	n, e := chalk.Least(g, mark, api.Place{Symbol: g.Start, To: len(mark)})
	if e != api.OK || n != want {
		t.Errorf("%s: least cost of %v: %d, error %d, want %d", what, mark, n, e, want)
	}
}

func TestLeast(t *testing.T) {
	g := example()
	costs(t, "P3.3", g, []int{1, 2}, 3)
	costs(t, "P3.3", g, []int{1, 0}, 4)
	costs(t, "P3.3", g, nil, 9)
	costs(t, "P3.3", g, []int{2}, 7)
	costs(t, "P3.3", g, []int{1, 2, 2}, 4)
	g.Makings = append(g.Makings, api.Making{Symbol: 1, Items: []int{2, 2}, Cost: 1}, api.Making{Symbol: 2, Items: []int{1}, Cost: 1})
	costs(t, "P3.3", g, []int{2, 2}, 5)
	if n, e := chalk.Least(g, []int{1, 2, 2}, api.Place{Symbol: 2, From: 1, To: 3}); e != api.OK || n != 3 {
		t.Error("P3.3: a part:", n, e)
	}
}

func TestLeastErrors(t *testing.T) {
	g := changed(func(g *api.Grammar) { g.Symbols = 3 })
	for _, p := range []api.Place{{}, {Symbol: -1}, {Symbol: 4}, {Symbol: math.MaxInt}, {Symbol: math.MinInt}, {Symbol: 1, From: -1}, {Symbol: 1, To: 3}, {Symbol: 1, From: 2, To: 1}, {Symbol: 3, From: 3, To: 3}, {Symbol: 3, From: math.MinInt, To: math.MaxInt}, {Symbol: 3, From: math.MaxInt, To: math.MinInt}} {
		if n, e := chalk.Least(g, []int{1, 2}, p); e != api.ErrArg || n != 0 {
			t.Errorf("P3.3: least of %v: %d, error %d", p, n, e)
		}
	}
	for _, p := range []api.Place{{Symbol: 3}, {Symbol: 3, To: 2}, {Symbol: 3, From: 2, To: 2}} {
		if n, e := chalk.Least(g, []int{1, 2}, p); e != api.ErrNone || n != 0 {
			t.Errorf("P3.3: least of %v: %d, error %d", p, n, e)
		}
	}
}

// table returns the table of a mark.
func table(t *testing.T, g api.Grammar, mark []int) api.Costs {
	t.Helper()
	c, e := chalk.Table(g, mark)
	if e != api.OK {
		t.Fatalf("P3.4: table of %+v and %v: error %d", g, mark, e)
	}
	return c
}

func TestTable(t *testing.T) {
	g := changed(func(g *api.Grammar) { g.Symbols = 3 })
	c := table(t, g, []int{1, 2})
	want := [][]int{{9, 7, 3, 9, 7, 9}, {6, 7, 5, 6, 2, 6}, {-1, -1, -1, -1, -1, -1}}
	if !slices.EqualFunc(c.Least, want, slices.Equal) {
		t.Error("P3.4: table:", c)
	}
	c = table(t, g, nil)
	if want := [][]int{{9}, {6}, {-1}}; !slices.EqualFunc(c.Least, want, slices.Equal) {
		t.Error("P3.4: table of the empty mark:", c)
	}
}

func TestTablesOfAllTrees(t *testing.T) {
	d := dice(17)
	for range 300 {
		o := newOracle(d.grammar(), d.mark(4))
		c := table(t, o.g, o.mark)
		for s := 1; s <= o.g.Symbols; s++ {
			for from := range len(o.mark) + 1 {
				for to := from; to <= len(o.mark); to++ {
					p := api.Place{Symbol: s, From: from, To: to}
					want := o.least(p, 0)
					got := c.Least[s-1][o.index(from, to)]
					if got != want && (want < far || got < far) {
						t.Fatalf("P3.4, T3: %+v: %v: least of %v is %d, want %d", o.g, o.mark, p, got, want)
					}
					n, e := chalk.Least(o.g, o.mark, p)
					if got < 0 && (e != api.ErrNone || n != 0) || got >= 0 && (e != api.OK || n != got) {
						t.Fatalf("P3.3: %+v: %v: least of %v is %d, error %d, and %d in the table", o.g, o.mark, p, n, e, got)
					}
				}
			}
		}
		fails(t, "P3.4, P3.10: a table", chalk.CheckTable(o.g, o.mark, c), api.OK)
	}
}

// alter changes some numbers of a table.
func (d *dice) alter(c api.Costs) {
	for range 1 + d.roll(3) {
		l := c.Least[d.roll(len(c.Least))]
		i := d.roll(len(l))
		switch d.roll(8) {
		case 0:
			l[i] = -1
		case 1:
			l[i] = 0
		case 2:
			l[i] = 1 << 40
		case 3:
			l[i]++
		default:
			l[i] = max(l[i]-d.roll(4), -1)
		}
	}
}

func TestCheckTable(t *testing.T) {
	d := dice(23)
	var taken, refused int
	for range 4000 {
		o := newOracle(d.grammar(), d.mark(3))
		right := table(t, o.g, o.mark)
		c := table(t, o.g, o.mark)
		d.alter(c)
		want := api.ErrProof
		if o.proves(c) {
			want = api.OK
		}
		if e := chalk.CheckTable(o.g, o.mark, c); e != want {
			t.Fatalf("P3.4: %+v: %v: table %v: error %d, want %d", o.g, o.mark, c, e, want)
		}
		if want != api.OK {
			refused++
			continue
		}
		taken++
		got, least := c.Least[o.g.Start-1][o.index(0, len(o.mark))], right.Least[o.g.Start-1][o.index(0, len(o.mark))]
		if least >= 0 && (got < 0 || got > least) {
			t.Fatalf("P3.10: %+v: %v: %d is accepted, and %d is the least cost", o.g, o.mark, got, least)
		}
	}
	if taken < 400 || refused < 400 {
		t.Error("too few tables of a kind:", taken, refused)
	}
}

func TestTablesThatAreNone(t *testing.T) {
	g, mark := changed(func(g *api.Grammar) { g.Symbols = 3 }), []int{1, 2}
	for i, x := range []struct {
		change func(c *api.Costs)
		e      api.Errno
	}{
		{func(c *api.Costs) {}, api.OK},
		{func(c *api.Costs) { c.Least[2][4] = 1 << 40 }, api.OK},
		{func(c *api.Costs) { c.Least[2][0] = 0 }, api.OK},
		{func(c *api.Costs) { c.Least[0] = make([]int, 6) }, api.OK},
		{func(c *api.Costs) { c.Least[2][4] = 1<<40 + 1 }, api.ErrProof},
		{func(c *api.Costs) { c.Least[2][0] = -2 }, api.ErrProof},
		{func(c *api.Costs) { c.Least[2][0] = math.MinInt }, api.ErrProof},
		{func(c *api.Costs) { c.Least[2][0] = math.MaxInt }, api.ErrProof},
		{func(c *api.Costs) { c.Least = nil }, api.ErrProof},
		{func(c *api.Costs) { c.Least = c.Least[:2] }, api.ErrProof},
		{func(c *api.Costs) { c.Least = append(c.Least, c.Least[2]) }, api.ErrProof},
		{func(c *api.Costs) { c.Least[2] = nil }, api.ErrProof},
		{func(c *api.Costs) { c.Least[2] = c.Least[2][:5] }, api.ErrProof},
		{func(c *api.Costs) { c.Least[2] = append(c.Least[2], -1) }, api.ErrProof},
		{func(c *api.Costs) { c.Least[0] = append(c.Least[0], 0) }, api.ErrProof},
		{func(c *api.Costs) { c.Least[0][2]++ }, api.ErrProof},
		{func(c *api.Costs) { c.Least[0][2] = -1 }, api.ErrProof},
		{func(c *api.Costs) { c.Least[1][4]-- }, api.ErrProof},
	} {
		c := table(t, g, mark)
		x.change(&c)
		if e := chalk.CheckTable(g, mark, c); e != x.e {
			t.Errorf("P3.4: table %d: error %d, want %d", i, e, x.e)
		}
	}
	long := changed(func(g *api.Grammar) { g.Symbols = 12 })
	c := table(t, long, nil)
	c.Least = append(c.Least, []int{-1})
	fails(t, "P3.4: 13 lists", chalk.CheckTable(long, nil, c), api.ErrProof)
}

func TestGreatNumbersOfTables(t *testing.T) {
	g := api.Grammar{Symbols: 2, Start: 1, Other: 1, Missed: 1, Added: 1, Smudged: 1, Makings: []api.Making{{Symbol: 1, Items: []int{2, 2, 2}, Cost: 1}}}
	for _, x := range []struct {
		start, other int
		e            api.Errno
	}{{-1, -1, api.OK}, {1 << 40, -1, api.OK}, {1 << 40, 1 << 40, api.OK}, {-1, 1 << 40, api.ErrProof}, {1, 0, api.OK}, {2, 0, api.ErrProof}, {0, 0, api.OK}, {1 << 40, (1<<40 - 1) / 3, api.OK}, {1 << 40, (1<<40 - 4) / 3, api.ErrProof}} {
		if e := chalk.CheckTable(g, nil, api.Costs{Least: [][]int{{x.start}, {x.other}}}); e != x.e {
			t.Errorf("P3.4: numbers %d and %d: error %d, want %d", x.start, x.other, e, x.e)
		}
	}
}

// dear returns a grammar whose trees are as dear as can be: 12 symbols, each made of three of the next one.
func dear() api.Grammar {
	g := api.Grammar{Symbols: 12, Start: 1, Other: 1000, Missed: 1000, Added: 1000, Smudged: 1000}
	for s := 1; s < 12; s++ {
		g.Makings = append(g.Makings, api.Making{Symbol: s, Items: []int{s + 1, s + 1, s + 1}, Cost: 1000})
	}
	g.Makings = append(g.Makings, api.Making{Symbol: 12, Items: []int{-1, -1, -1}, Cost: 1000})
	return g
}

func TestDearest(t *testing.T) {
	g := dear()
	makings, strokes := (531441-1)/2, 531441
	costs(t, "P3.3, R1", g, nil, 1000*(makings+strokes))
	costs(t, "P3.3, R1", g, slices.Repeat([]int{1}, 16), 1000*(makings+strokes-16))
	mark := slices.Repeat([]int{1}, 16)
	fails(t, "P3.4, P3.10: the dearest table", chalk.CheckTable(g, mark, table(t, g, mark)), api.OK)
	// The same with the makings, and with the symbols, in the other order.
	slices.Reverse(g.Makings)
	costs(t, "P3.3", g, mark, 1000*(makings+strokes-16))
	for i, m := range g.Makings {
		items := slices.Clone(m.Items)
		for j, n := range items {
			if n > 0 {
				items[j] = 13 - n
			}
		}
		g.Makings[i] = api.Making{Symbol: 13 - m.Symbol, Items: items, Cost: m.Cost}
	}
	g.Start = 12
	costs(t, "P3.3", g, mark, 1000*(makings+strokes-16))
}

func TestNearly(t *testing.T) {
	d := dice(29)
	for range 2000 {
		g, mark := d.grammar(), d.mark(6)
		n, e := chalk.Least(g, mark, api.Place{Symbol: g.Start, To: len(mark)})
		i := d.roll(len(mark) + 1)
		more := slices.Insert(slices.Clone(mark), i, d.roll(4))
		m, f := chalk.Least(g, more, api.Place{Symbol: g.Start, To: len(more)})
		if e != f || m > n+g.Added {
			t.Fatalf("P3.13: %+v: %v costs %d, %v costs %d, errors %d and %d", g, mark, n, more, m, e, f)
		}
		if i == len(mark) {
			continue
		}
		smudged := slices.Clone(mark)
		smudged[i] = api.Smudged
		m, f = chalk.Least(g, smudged, api.Place{Symbol: g.Start, To: len(mark)})
		if e != f || m > n+g.Smudged {
			t.Fatalf("P3.13: %+v: %v costs %d, %v costs %d, errors %d and %d", g, mark, n, smudged, m, e, f)
		}
	}
}
