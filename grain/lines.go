package grain

import (
	"maps"
	"slices"

	"potence/api"
)

// The kinds of lines, in the order of package api.
const (
	buy = api.LnBuy + iota
	feed
	dung
	paid
)

// isFormed says whether a line is formed.
func isFormed(l api.Line) bool {
	if !isFrom(1, l.ID, api.MaxID) || !isFrom(0, l.Day, api.MaxDay) {
		return false
	}
	most := 0
	switch l.Kind {
	case buy:
		most = api.MaxMoney
		fallthrough
	case feed:
		return isFrom(1, l.Bushels, api.MaxLot) && isFrom(0, l.Pence, most)
	case dung, paid:
		return l.Bushels == 0 && isFrom(1, l.Pence, api.MaxMoney)
	}
	return false
}

// CheckLines returns the first error of a ledger.
func CheckLines(l []api.Line) api.Errno {
	if len(l) > api.MaxLines {
		return api.ErrLimit
	}
	told := map[int]bool{}
	for _, line := range l {
		if !isFormed(line) {
			return api.ErrForm
		}
		if told[line.ID] {
			return api.ErrTwice
		}
		told[line.ID] = true
	}
	return api.OK
}

// Purse returns what was taken for dung, less what was paid, behind a day.
func Purse(l []api.Line, day int) (int, api.Errno) {
	if e := CheckLines(l); e != api.OK {
		return 0, e
	}
	if !isFrom(0, day, api.MaxDay) {
		return 0, api.ErrArg
	}
	sum := 0
	for _, line := range l {
		if line.Day > day {
			continue
		}
		pence := line.Pence
		switch line.Kind {
		case buy, paid:
			pence = -pence
			fallthrough
		case dung:
			sum += pence
		}
	}
	return sum, api.OK
}

// ledger is lines by their IDs.
type ledger map[int]api.Line

// lines returns the lines of a ledger, by ID.
func (g ledger) lines() []api.Line {
	var l []api.Line
	for _, id := range slices.Sorted(maps.Keys(g)) {
		l = append(l, g[id])
	}
	return l
}

// ledgerOf returns the ledger of a list of lines, or the first error of it.
func ledgerOf(l []api.Line) (ledger, api.Errno) {
	if e := CheckLines(l); e != api.OK {
		return nil, e
	}
	g := ledger{}
	for _, line := range l {
		g[line.ID] = line
	}
	return g, api.OK
}

// ledgersOf returns two ledgers, or the first error of both.
func ledgersOf(a, b []api.Line) (ledger, ledger, api.Errno) {
	one, e := ledgerOf(a)
	if e != api.OK {
		return nil, nil, e
	}
	two, e := ledgerOf(b)
	if e != api.OK {
		return nil, nil, e
	}
	return one, two, api.OK
}

// lacks returns the IDs of the lines that one ledger has and another one does not have, in increasing order.
func lacks(has, other ledger) []int {
	var ids []int
	for id := range has {
		if _, is := other[id]; !is {
			ids = append(ids, id)
		}
	}
	slices.Sort(ids)
	return ids
}

// Part returns where two ledgers part.
func Part(a, b []api.Line) (api.Parting, api.Errno) {
	one, two, e := ledgersOf(a, b)
	if e != api.OK {
		return api.Parting{}, e
	}
	var other []int
	for id, line := range one {
		if told, is := two[id]; is && told != line {
			other = append(other, id)
		}
	}
	slices.Sort(other)
	return api.Parting{One: lacks(one, two), Two: lacks(two, one), Other: other}, api.OK
}

// Agree returns the lines that two ledgers have alike.
func Agree(a, b []api.Line) ([]api.Line, api.Errno) {
	one, two, e := ledgersOf(a, b)
	if e != api.OK {
		return nil, e
	}
	alike := ledger{}
	for id, line := range one {
		if two[id] == line {
			alike[id] = line
		}
	}
	return alike.lines(), api.OK
}

// Merge returns the lines of two ledgers, of which those that are other count as one of them tells.
func Merge(a, b []api.Line, first bool) ([]api.Line, api.Errno) {
	all, over, e := ledgersOf(a, b)
	if e != api.OK {
		return nil, e
	}
	if first {
		all, over = over, all // the first one is laid over the second one
	}
	maps.Copy(all, over)
	if len(all) > api.MaxLines {
		return nil, api.ErrLimit
	}
	return all.lines(), api.OK
}

// Lines returns the lines of the cheapest way to buy, and of what is fed.
func Lines(b api.Barn, most bool, l api.Lots) ([]api.Line, api.Errno) {
	if e := Check(b); e != api.OK {
		return nil, e
	}
	if CheckBest(b, most, l) != api.OK {
		return nil, api.ErrState
	}
	p, book := plan{b, most}, ledger{}
	for t, i := range l.Bought {
		if i < 0 {
			continue
		}
		lot, is := book[2*i+1]
		if !is {
			lot = api.Line{ID: 2*i + 1, Day: i, Kind: buy, Pence: b.Days[i].Fare}
		}
		lot.Bushels += p.need(t)
		lot.Pence += p.need(t) * b.Days[i].Price
		book[lot.ID] = lot
		book[2*t+2] = api.Line{ID: 2*t + 2, Day: t, Kind: feed, Bushels: p.need(t)}
	}
	lines := book.lines()
	if e := CheckLines(lines); e != api.OK {
		return nil, e
	}
	return lines, api.OK
}
