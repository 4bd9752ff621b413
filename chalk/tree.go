package chalk

import (
	"slices"

	"potence/api"
)

// aStroke is the Making of the bough of a stroke.
const aStroke = -1

// walk reads the boughs of what may be a tree, one after the other.
type walk struct {
	*reading
	tree  []api.Bough
	next  int
	cost  int
	meant []int
}

// bough reads the next bough, and says whether there is one whose part begins where it has to, and lies in the part around it.
func (w *walk) bough(from, most int) (api.Bough, bool) {
	if w.next == len(w.tree) {
		return api.Bough{}, false
	}
	b := w.tree[w.next]
	w.next++
	return b, b.From == from && from <= b.To && b.To <= most
}

// item reads the boughs of an item, and returns where its part ends, and whether all is right.
func (w *walk) item(x item, from, most int) (int, bool) {
	b, ok := w.bough(from, most)
	if !ok {
		return 0, false
	}
	switch x := x.(type) {
	case stroke:
		w.cost += w.strokes[x][b.From][b.To]
		w.meant = append(w.meant, int(x))
		ok = b.Making == aStroke
	case symbol:
		ok = w.rest(x, b)
	}
	return b.To, ok
}

// rest reads the boughs behind the first one of a symbol, and says whether they are its tree.
func (w *walk) rest(s symbol, b api.Bough) bool {
	if b.Making < 0 || b.Making >= len(w.makings) || w.makings[b.Making].symbol != s {
		return false
	}
	m := w.makings[b.Making]
	w.cost += m.cost
	if len(m.items) == 0 {
		w.cost += w.grammar.Added * (b.To - b.From)
		return true
	}
	at := b.From
	for _, x := range m.items {
		to, ok := w.item(x, at, b.To)
		if !ok {
			return false
		}
		at = to
	}
	return at == b.To
}

// isTree reads all boughs, and says whether they are a tree of the mark.
func (w *walk) isTree() bool {
	to, ok := w.item(symbol(w.grammar.Start), 0, len(w.mark))
	return ok && to == len(w.mark) && w.next == len(w.tree)
}

// walked returns the walk of a tree, or the first error of a grammar with a mark and a tree.
func walked(g api.Grammar, mark []int, tree []api.Bough) (*walk, api.Errno) {
	if e := checkBoth(g, mark); e != api.OK {
		return nil, e
	}
	if len(tree) > api.MaxBoughs {
		return nil, api.ErrLimit
	}
	w := &walk{reading: newReading(g, mark), tree: tree}
	if !w.isTree() {
		return nil, api.ErrProof
	}
	return w, api.OK
}

// CheckTree returns the cost of a tree of a mark.
func CheckTree(g api.Grammar, mark []int, tree []api.Bough) (int, api.Errno) {
	w, e := walked(g, mark, tree)
	if e != api.OK {
		return 0, e
	}
	return w.cost, api.OK
}

// CheckRead returns OK if a tree is a cheapest one, as a table proves.
func CheckRead(g api.Grammar, mark []int, tree []api.Bough, t api.Costs) api.Errno {
	w, e := walked(g, mark, tree)
	if e != api.OK {
		return e
	}
	r := w.reading
	if !r.proves(t) || r.at(r.whole()) != w.cost {
		return api.ErrProof
	}
	return api.OK
}

// Meant returns the strokes that a tree stands for.
func Meant(g api.Grammar, mark []int, tree []api.Bough) ([]int, api.Errno) {
	w, e := walked(g, mark, tree)
	if e != api.OK {
		return nil, e
	}
	return w.meant, api.OK
}

// boughs returns how many boughs a tree has that begins with a choice, if the trees below have so many.
func (r *reading) boughs(c choice, of []int) int {
	n := 1 + len(r.makings[c.way.making].items) - len(c.below)
	for _, b := range c.below {
		n += of[b]
	}
	return n
}

// fewest returns how many boughs the cheapest trees of each place have at least.
func (r *reading) fewest(w wood) []int {
	return grown(w, func(place int, of []int) int {
		return least(slices.Values(w.choices[place]), func(c choice) int { return r.boughs(c, of) })
	})
}

// smallest returns the boughs of a cheapest tree of a place that has as few as possible.
func (r *reading) smallest(w wood, place int, of []int) []api.Bough {
	var found choice
search:
	for _, c := range w.choices[place] {
		if r.boughs(c, of) == of[place] {
			found = c
			break search
		}
	}
	p := w.places[place]
	tree := []api.Bough{{Making: found.way.making, From: p.From, To: p.To}}
	below := found.below
	for i, x := range r.makings[found.way.making].items {
		switch x.(type) {
		case stroke:
			p := found.way.part(i)
			tree = append(tree, api.Bough{Making: aStroke, From: p.from, To: p.to})
		case symbol:
			tree = append(tree, r.smallest(w, below[0], of)...)
			below = below[1:]
		}
	}
	return tree
}

// Read returns a cheapest tree of a mark.
func Read(g api.Grammar, mark []int) ([]api.Bough, int, api.Errno) {
	r, e := readSome(g, mark)
	if e != api.OK {
		return nil, 0, e
	}
	w := r.wood()
	of := r.fewest(w)
	if of[w.top()] > api.MaxBoughs {
		return nil, 0, api.ErrLimit
	}
	return r.smallest(w, w.top(), of), r.at(r.whole()), api.OK
}
