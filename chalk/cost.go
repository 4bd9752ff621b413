package chalk

import (
	"iter"
	"slices"

	"potence/api"
)

// none is the cost of what there is not: more than any sum of costs of what there is.
const none = 1 << 50

// dearest is the greatest number of a table that is checked. Three of them, and what else a making costs, are less than none.
const dearest = 1 << 40

// item is what a making is made of: a stroke or a symbol.
type item any

type (
	stroke int
	symbol int
)

// itemOf returns the item for which a number of a grammar stands.
func itemOf(n int) item {
	if n < 0 {
		return stroke(-n)
	}
	return symbol(n)
}

// making is an api.Making whose items can be told apart.
type making struct {
	symbol symbol
	items  []item
	cost   int
}

// makingsOf returns the makings of a grammar.
func makingsOf(g api.Grammar) []making {
	makings := make([]making, len(g.Makings))
	for i, m := range g.Makings {
		makings[i] = making{symbol: symbol(m.Symbol), cost: m.Cost}
		for _, n := range m.Items {
			makings[i].items = append(makings[i].items, itemOf(n))
		}
	}
	return makings
}

// part is a part of a mark.
type part struct{ from, to int }

// isPart says whether it is a part of a mark of n strokes.
func (p part) isPart(n int) bool { return 0 <= p.from && p.from <= p.to && p.to <= n }

// strokes returns how many strokes a part has.
func (p part) strokes() int { return p.to - p.from }

// partOf returns the part of a place.
func partOf(p api.Place) part { return part{p.From, p.To} }

// parts yields the parts of a mark of n strokes in the order of a table.
func parts(n int) iter.Seq[part] {
	return func(yield func(part) bool) {
		for from := range n + 1 {
			for to := from; to <= n; to++ {
				if !yield(part{from, to}) {
					return
				}
			}
		}
	}
}

// shortFirst yields the parts of a mark of n strokes, each behind those that lie in it.
func shortFirst(n int) iter.Seq[part] {
	return func(yield func(part) bool) {
		for strokes := range n + 1 {
			for from := range n - strokes + 1 {
				if !yield(part{from, from + strokes}) {
					return
				}
			}
		}
	}
}

// division is a part that is divided: the item with the index i has what is from the number i up to the next one.
type division [api.MaxItems + 1]int

// divisions yields the ways to divide a part among some items. Among no items it is not divided, which is one way.
func divisions(p part, items int) iter.Seq[division] {
	return func(yield func(division) bool) {
		d := division{p.from}
		var divide func(i int) bool
		divide = func(i int) bool {
			if i >= items {
				d[max(items, 1)] = p.to
				return yield(d)
			}
			for d[i] = d[i-1]; d[i] <= p.to; d[i]++ {
				if !divide(i + 1) {
					return false
				}
			}
			return true
		}
		divide(1)
	}
}

// least returns the least of the costs of some things, none if there are no things.
func least[T any](things iter.Seq[T], cost func(T) int) int {
	n := none
	for x := range things {
		n = min(n, cost(x))
	}
	return n
}

// row is a cost for each part of a mark, by From and To.
type row [api.MaxStrokes + 1][api.MaxStrokes + 1]int

// costs are a row for each symbol.
type costs [api.MaxSymbols + 1]row

// way is a making with a part that is divided among its items.
type way struct {
	making int
	parts  division
}

// part returns the part of the item with an index.
func (w way) part(i int) part { return part{w.parts[i], w.parts[i+1]} }

// reading is a mark with the grammar by which it is read.
type reading struct {
	grammar api.Grammar
	mark    []int
	makings []making
	strokes [api.MaxStroke + 1]row // of the strokes of which a making is made
	least   costs
}

// newReading returns a reading; what its symbols cost is not known yet.
func newReading(g api.Grammar, mark []int) *reading {
	r := &reading{grammar: g, mark: mark, makings: makingsOf(g)}
	var known [api.MaxStroke + 1]bool
	for _, m := range r.makings {
		for _, x := range m.items {
			if s, ok := x.(stroke); ok && !known[s] {
				known[s] = true
				r.strokes[s] = r.row(int(s))
			}
		}
	}
	return r
}

// row returns the costs of all parts as a stroke.
func (r *reading) row(s int) row {
	var all row
	for p := range parts(len(r.mark)) {
		all[p.from][p.to] = r.stroke(p, s)
	}
	return all
}

// stroke returns the cost of a part as a stroke.
func (r *reading) stroke(p part, s int) int {
	missed := r.grammar.Missed + r.grammar.Added*p.strokes()
	others := r.grammar.Added * (p.strokes() - 1)
	return min(missed, least(slices.Values(r.mark[p.from:p.to]), func(x int) int {
		switch x {
		case s:
			return others
		case api.Smudged:
			return r.grammar.Smudged + others
		}
		return r.grammar.Other + others
	}))
}

// whole returns the place of a mark's trees.
func (r *reading) whole() api.Place { return api.Place{Symbol: r.grammar.Start, To: len(r.mark)} }

// at returns the least cost of a place.
func (r *reading) at(p api.Place) int { return r.least[p.Symbol][p.From][p.To] }

// ways yields all ways to make a symbol of a part.
func (r *reading) ways(p api.Place) iter.Seq[way] {
	return func(yield func(way) bool) {
		for i, m := range r.makings {
			if m.symbol != symbol(p.Symbol) {
				continue
			}
			for d := range divisions(partOf(p), len(m.items)) {
				if !yield(way{i, d}) {
					return
				}
			}
		}
	}
}

// cost returns the least cost of the trees that begin with a way.
func (r *reading) cost(w way) int {
	m := r.makings[w.making]
	n := m.cost
	if len(m.items) == 0 {
		n += r.grammar.Added * w.part(0).strokes()
	}
	for i, x := range m.items {
		p := w.part(i)
		switch x := x.(type) {
		case stroke:
			n += r.strokes[x][p.from][p.to]
		case symbol:
			n += r.least[x][p.from][p.to]
		}
	}
	return min(n, none)
}

// lower lets no place cost more than a way to make it.
func (r *reading) lower() {
	for p := range shortFirst(len(r.mark)) {
		for s := 1; s <= r.grammar.Symbols; s++ {
			cost := &r.least[s][p.from][p.to]
			*cost = min(*cost, least(r.ways(api.Place{Symbol: s, From: p.from, To: p.to}), r.cost))
		}
	}
}

// settle finds the least costs of all places. They come down from none until no way lowers them; as each making costs something, no other costs stand still.
func (r *reading) settle() {
	for p := range parts(len(r.mark)) {
		for s := range r.least {
			r.least[s][p.from][p.to] = none
		}
	}
	for changed := true; changed; {
		before := r.least
		r.lower()
		changed = r.least != before
	}
}

// read returns a reading whose least costs are known, or the first error of a grammar with a mark.
func read(g api.Grammar, mark []int) (*reading, api.Errno) {
	if e := checkBoth(g, mark); e != api.OK {
		return nil, e
	}
	r := newReading(g, mark)
	r.settle()
	return r, api.OK
}

// readSome returns the same, or ErrNone if the mark has no tree.
func readSome(g api.Grammar, mark []int) (*reading, api.Errno) {
	r, e := read(g, mark)
	if e == api.OK && r.at(r.whole()) == none {
		return nil, api.ErrNone
	}
	return r, e
}

// Stroke returns the least cost of a part of a mark as one stroke.
func Stroke(g api.Grammar, mark []int, from, to, stroke int) (int, api.Errno) {
	if e := checkBoth(g, mark); e != api.OK {
		return 0, e
	}
	p := part{from, to}
	if !p.isPart(len(mark)) || !isStroke(stroke) {
		return 0, api.ErrArg
	}
	r := reading{grammar: g, mark: mark}
	return r.stroke(p, stroke), api.OK
}

// Least returns the least cost of a part of a mark as a symbol.
func Least(g api.Grammar, mark []int, p api.Place) (int, api.Errno) {
	r, e := read(g, mark)
	if e != api.OK {
		return 0, e
	}
	if !isSymbol(g, p.Symbol) || !partOf(p).isPart(len(mark)) {
		return 0, api.ErrArg
	}
	if r.at(p) == none {
		return 0, api.ErrNone
	}
	return r.at(p), api.OK
}

// Table returns the least costs of all parts of a mark.
func Table(g api.Grammar, mark []int) (api.Costs, api.Errno) {
	r, e := read(g, mark)
	if e != api.OK {
		return api.Costs{}, e
	}
	var t api.Costs
	for s := 1; s <= g.Symbols; s++ {
		var list []int
		for p := range parts(len(mark)) {
			list = append(list, told(r.least[s][p.from][p.to]))
		}
		t.Least = append(t.Least, list)
	}
	return t, api.OK
}

// told returns a number as it is told: -1 for none.
func told(n int) int {
	if n == none {
		return -1
	}
	return n
}

// take makes a table the costs of a reading, and says whether it has the form of one.
func (r *reading) take(t api.Costs) bool {
	all := slices.Collect(parts(len(r.mark)))
	if len(t.Least) != r.grammar.Symbols {
		return false
	}
	for i, list := range t.Least {
		if len(list) != len(all) {
			return false
		}
		for j, n := range list {
			if n < -1 || n > dearest {
				return false
			}
			if n == -1 {
				n = none
			}
			r.least[i+1][all[j].from][all[j].to] = n
		}
	}
	return true
}

// proves says whether no tree costs less than a table says: no way lowers its numbers.
func (r *reading) proves(t api.Costs) bool {
	if !r.take(t) {
		return false
	}
	before := r.least
	r.lower()
	return r.least == before
}

// CheckTable returns OK if no reading costs less than a table says.
func CheckTable(g api.Grammar, mark []int, t api.Costs) api.Errno {
	if e := checkBoth(g, mark); e != api.OK {
		return e
	}
	if !newReading(g, mark).proves(t) {
		return api.ErrProof
	}
	return api.OK
}
