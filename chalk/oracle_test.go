package chalk_test

import (
	"slices"

	"potence/api"
)

// dice are numbers that are the same in each run.
type dice uint64

// roll returns a number less than n.
func (d *dice) roll(n int) int {
	*d = *d*6364136223846793005 + 1442695040888963407
	return int(uint64(*d)>>33) % n
}

// grammar returns some small grammar with small costs, so that there are many cheapest trees.
func (d *dice) grammar() api.Grammar {
	g := api.Grammar{Symbols: 1 + d.roll(4), Other: 1 + d.roll(4), Missed: 1 + d.roll(4), Added: 1 + d.roll(4), Smudged: 1 + d.roll(3)}
	g.Start = 1 + d.roll(g.Symbols)
	for range d.roll(8) {
		m := api.Making{Symbol: 1 + d.roll(g.Symbols), Cost: 1 + d.roll(4)}
		for range d.roll(4) {
			if d.roll(2) == 0 {
				m.Items = append(m.Items, -1-d.roll(3))
			} else {
				m.Items = append(m.Items, 1+d.roll(g.Symbols))
			}
		}
		g.Makings = append(g.Makings, m)
	}
	return g
}

// mark returns some mark with at most n strokes.
func (d *dice) mark(n int) []int {
	var mark []int
	for range d.roll(n + 1) {
		mark = append(mark, d.roll(4))
	}
	return mark
}

// oracle tells of the trees of a mark what the chapter's terms say, tree by tree.
type oracle struct {
	g     api.Grammar
	mark  []int
	count map[priced]int
	trees map[priced][][]api.Bough
}

// priced is a place with the cost of its trees.
type priced struct {
	p    api.Place
	cost int
}

// enough is how many trees are counted and listed.
const enough = 1500

func newOracle(g api.Grammar, mark []int) *oracle {
	return &oracle{g, mark, map[priced]int{}, map[priced][][]api.Bough{}}
}

// whole returns the place of the trees of the mark.
func (o *oracle) whole() api.Place { return api.Place{Symbol: o.g.Start, From: 0, To: len(o.mark)} }

// stroke returns the cost of a part as a stroke.
func (o *oracle) stroke(from, to, s int) int {
	costs := []int{o.g.Missed + (to-from)*o.g.Added}
	for i := from; i < to; i++ {
		n := (to - from - 1) * o.g.Added
		if o.mark[i] == 0 {
			n += o.g.Smudged
		} else if o.mark[i] != s {
			n += o.g.Other
		}
		costs = append(costs, n)
	}
	return slices.Min(costs)
}

// ends returns all lists of where n items end that divide a part.
func ends(from, to, n int) [][]int {
	if n == 1 {
		return [][]int{{to}}
	}
	var all [][]int
	for at := from; at <= to; at++ {
		for _, rest := range ends(at, to, n-1) {
			all = append(all, append([]int{at}, rest...))
		}
	}
	return all
}

// shares returns all ways to spend a cost on n things.
func shares(cost, n int) [][]int {
	if n == 0 {
		if cost == 0 {
			return [][]int{nil}
		}
		return nil
	}
	var all [][]int
	for c := 0; c <= cost; c++ {
		for _, rest := range shares(cost-c, n-1) {
			all = append(all, append([]int{c}, rest...))
		}
	}
	return all
}

// number returns how many trees of a place have just this cost, at most enough.
func (o *oracle) number(p api.Place, cost int) int {
	at := priced{p, cost}
	if n, ok := o.count[at]; ok {
		return n
	}
	n := 0
	for _, m := range o.g.Makings {
		if m.Symbol != p.Symbol || m.Cost > cost {
			continue
		}
		if len(m.Items) == 0 {
			if m.Cost+o.g.Added*(p.To-p.From) == cost {
				n++
			}
			continue
		}
		for _, e := range ends(p.From, p.To, len(m.Items)) {
			n += o.ways(m.Items, e, p.From, cost-m.Cost)
		}
	}
	o.count[at] = min(n, enough)
	return o.count[at]
}

// ways returns how many lists of trees of items together have a cost.
func (o *oracle) ways(items, ends []int, from, cost int) int {
	if cost < 0 {
		return 0
	}
	if len(items) == 0 {
		if cost == 0 {
			return 1
		}
		return 0
	}
	if items[0] < 0 {
		return o.ways(items[1:], ends[1:], ends[0], cost-o.stroke(from, ends[0], -items[0]))
	}
	n := 0
	for c := 1; c <= cost; c++ {
		if k := o.number(api.Place{Symbol: items[0], From: from, To: ends[0]}, c); k > 0 {
			n += k * o.ways(items[1:], ends[1:], ends[0], cost-c)
		}
	}
	return min(n, enough)
}

// list returns the trees of a place that have just this cost.
func (o *oracle) list(p api.Place, cost int) [][]api.Bough {
	at := priced{p, cost}
	if l, ok := o.trees[at]; ok {
		return l
	}
	var all [][]api.Bough
	for i, m := range o.g.Makings {
		if m.Symbol != p.Symbol || m.Cost > cost {
			continue
		}
		first := api.Bough{Making: i, From: p.From, To: p.To}
		if len(m.Items) == 0 {
			if m.Cost+o.g.Added*(p.To-p.From) == cost {
				all = append(all, []api.Bough{first})
			}
			continue
		}
		for _, e := range ends(p.From, p.To, len(m.Items)) {
			for _, c := range shares(cost-m.Cost, len(m.Items)) {
				all = append(all, o.join([]api.Bough{first}, m.Items, e, c, p.From)...)
			}
		}
	}
	o.trees[at] = all
	return all
}

// join returns the lists of boughs that begin as one, and go on with items that have their own costs.
func (o *oracle) join(begin []api.Bough, items, ends, costs []int, from int) [][]api.Bough {
	if len(items) == 0 {
		return [][]api.Bough{begin}
	}
	var all [][]api.Bough
	for _, t := range o.item(items[0], from, ends[0], costs[0]) {
		all = append(all, o.join(slices.Concat(begin, t), items[1:], ends[1:], costs[1:], ends[0])...)
	}
	return all
}

// item returns the boughs of an item for a part with a cost, in each way.
func (o *oracle) item(n, from, to, cost int) [][]api.Bough {
	if n > 0 {
		if o.number(api.Place{Symbol: n, From: from, To: to}, cost) == 0 {
			return nil
		}
		return o.list(api.Place{Symbol: n, From: from, To: to}, cost)
	}
	if o.stroke(from, to, -n) != cost {
		return nil
	}
	return [][]api.Bough{{{Making: -1, From: from, To: to}}}
}

// exists says whether a symbol has a tree that has at most so many makings one below the other.
func (o *oracle) exists(symbol, depth int) bool {
	for _, m := range o.g.Makings {
		if m.Symbol == symbol && depth > 0 && !slices.ContainsFunc(m.Items, func(x int) bool { return x > 0 && !o.exists(x, depth-1) }) {
			return true
		}
	}
	return false
}

// far is how much dearer a tree may be than what is asked for; dearer ones are not looked for.
const far = 24

// least returns the least cost of the trees of a place that is more than one: -1 if there is none, far more than the first one if none is found.
func (o *oracle) least(p api.Place, more int) int {
	if !o.exists(p.Symbol, o.g.Symbols) {
		return -1
	}
	for c := more + 1; c < more+far; c++ {
		if o.number(p, c) > 0 {
			return c
		}
	}
	return more + far
}

// cheapest returns the cheapest trees of the mark, and their cost, -1 if there are none, and whether they are few enough, and cheap.
func (o *oracle) cheapest() ([][]api.Bough, int, bool) {
	n := o.least(o.whole(), 0)
	if n < 0 {
		return nil, n, true
	}
	if n == far || o.number(o.whole(), n) == enough {
		return nil, n, false
	}
	return o.list(o.whole(), n), n, true
}

// places returns the symbols with their parts that a tree has.
func places(g api.Grammar, tree []api.Bough) map[api.Place]bool {
	all := map[api.Place]bool{}
	for _, b := range tree {
		if b.Making >= 0 {
			all[api.Place{Symbol: g.Makings[b.Making].Symbol, From: b.From, To: b.To}] = true
		}
	}
	return all
}

// makings returns the makings that a tree has.
func makings(tree []api.Bough) map[int]bool {
	all := map[int]bool{}
	for _, b := range tree {
		if b.Making >= 0 {
			all[b.Making] = true
		}
	}
	return all
}

// has says whether a list of boughs begins with a tree of a symbol, and returns its boughs, its cost and its strokes.
func (o *oracle) has(tree []api.Bough, symbol int) (n, cost int, meant []int, ok bool) {
	if len(tree) == 0 || tree[0].Making < 0 || tree[0].Making >= len(o.g.Makings) || o.g.Makings[tree[0].Making].Symbol != symbol {
		return 0, 0, nil, false
	}
	top := tree[0]
	m := o.g.Makings[top.Making]
	if top.From < 0 || top.To < top.From || top.To > len(o.mark) {
		return 0, 0, nil, false
	}
	n, cost = 1, m.Cost
	if len(m.Items) == 0 {
		return n, cost + o.g.Added*(top.To-top.From), nil, true
	}
	at := top.From
	for _, x := range m.Items {
		if n >= len(tree) || tree[n].From != at || tree[n].To < at || tree[n].To > top.To {
			return 0, 0, nil, false
		}
		b := tree[n]
		if x < 0 {
			if b.Making != -1 {
				return 0, 0, nil, false
			}
			n, cost, meant = n+1, cost+o.stroke(b.From, b.To, -x), append(meant, -x)
		} else {
			more, c, s, ok := o.has(tree[n:], x)
			if !ok {
				return 0, 0, nil, false
			}
			n, cost, meant = n+more, cost+c, append(meant, s...)
		}
		at = b.To
	}
	return n, cost, meant, at == top.To
}

// isTree says whether a list of boughs is a tree of the mark.
func (o *oracle) isTree(tree []api.Bough) (cost int, meant []int, ok bool) {
	n, cost, meant, ok := o.has(tree, o.g.Start)
	if !ok || n != len(tree) || tree[0].From != 0 || tree[0].To != len(o.mark) {
		return 0, nil, false
	}
	return cost, meant, true
}

// index returns the index of a part in a table.
func (o *oracle) index(from, to int) int {
	i := 0
	for f := 0; f <= len(o.mark); f++ {
		for t := f; t <= len(o.mark); t++ {
			if f == from && t == to {
				return i
			}
			i++
		}
	}
	return -1
}

// proves says whether a table is one that CheckTable has to accept.
func (o *oracle) proves(t api.Costs) bool {
	n := len(o.mark)
	if len(t.Least) != o.g.Symbols {
		return false
	}
	for _, l := range t.Least {
		if len(l) != (n+1)*(n+2)/2 || slices.Min(l) < -1 || slices.Max(l) > 1<<40 {
			return false
		}
	}
	for _, m := range o.g.Makings {
		for from := 0; from <= n; from++ {
			for to := from; to <= n; to++ {
				if !o.provesMaking(t, m, from, to) {
					return false
				}
			}
		}
	}
	return true
}

// provesMaking says whether a table is right for a making of a part.
func (o *oracle) provesMaking(t api.Costs, m api.Making, from, to int) bool {
	number := t.Least[m.Symbol-1][o.index(from, to)]
	if len(m.Items) == 0 {
		return number != -1 && number <= m.Cost+o.g.Added*(to-from)
	}
dividing:
	for _, e := range ends(from, to, len(m.Items)) {
		sum, at := m.Cost, from
		for i, x := range m.Items {
			if x < 0 {
				sum += o.stroke(at, e[i], -x)
			} else if c := t.Least[x-1][o.index(at, e[i])]; c < 0 {
				continue dividing
			} else {
				sum += c
			}
			at = e[i]
		}
		if number == -1 || number > sum {
			return false
		}
	}
	return true
}
