package chalk

import (
	"slices"

	"potence/api"
)

// counts are a number of strokes for each symbol.
type counts [api.MaxSymbols + 1]int

// strokes returns how many strokes the trees of a making have at least: none if an item has no tree.
func (m making) strokes(of counts) int {
	n := 0
	for _, x := range m.items {
		switch x := x.(type) {
		case stroke:
			n++
		case symbol:
			n += of[x]
		}
	}
	return min(n, none)
}

// shortest returns how many strokes the trees of each symbol have at least.
func shortest(makings []making) counts {
	var n counts
	for s := range n {
		n[s] = none
	}
	for changed := true; changed; {
		before := n
		for _, m := range makings {
			n[m.symbol] = min(n[m.symbol], m.strokes(n))
		}
		changed = n != before
	}
	return n
}

// useful says of each symbol whether it occurs in a tree of Start.
func useful(g api.Grammar) [api.MaxSymbols + 1]bool {
	makings := makingsOf(g)
	strokes := shortest(makings)
	var is [api.MaxSymbols + 1]bool
	is[g.Start] = strokes[g.Start] < none
	for changed := true; changed; {
		before := is
		for _, m := range makings {
			if !is[m.symbol] || m.strokes(strokes) == none {
				continue
			}
			for _, x := range m.items {
				if s, ok := x.(symbol); ok {
					is[s] = true
				}
			}
		}
		changed = is != before
	}
	return is
}

// Useless returns the symbols that no tree has.
func Useless(g api.Grammar) ([]int, api.Errno) {
	if e := Check(g); e != api.OK {
		return nil, e
	}
	is := useful(g)
	var useless []int
	for s := 1; s <= g.Symbols; s++ {
		if !is[s] {
			useless = append(useless, s)
		}
	}
	return useless, api.OK
}

// Shortest returns the least number of strokes of each symbol.
func Shortest(g api.Grammar) ([]int, api.Errno) {
	if e := Check(g); e != api.OK {
		return nil, e
	}
	n := shortest(makingsOf(g))
	var list []int
	for s := 1; s <= g.Symbols; s++ {
		list = append(list, told(n[s]))
	}
	return list, api.OK
}

// Without returns a grammar without a making.
func Without(g api.Grammar, making int) (api.Grammar, api.Errno) {
	if e := Check(g); e != api.OK {
		return api.Grammar{}, e
	}
	if making < 0 || making >= len(g.Makings) {
		return api.Grammar{}, api.ErrArg
	}
	var makings []api.Making
	for i, m := range g.Makings {
		if i != making {
			m.Items = slices.Clone(m.Items)
			makings = append(makings, m)
		}
	}
	g.Makings = makings
	return g, api.OK
}
