package grain_test

import (
	"cmp"
	"math"
	"reflect"
	"slices"
	"testing"

	"potence/api"
	"potence/grain"
)

// buy, feed, dung and pay return lines.
func buy(id, day, bushels, pence int) api.Line {
	return api.Line{ID: id, Day: day, Kind: api.LnBuy, Bushels: bushels, Pence: pence}
}

func feed(id, day, bushels int) api.Line {
	return api.Line{ID: id, Day: day, Kind: api.LnFeed, Bushels: bushels}
}

func dung(id, day, pence int) api.Line {
	return api.Line{ID: id, Day: day, Kind: api.LnDung, Pence: pence}
}

func pay(id, day, pence int) api.Line {
	return api.Line{ID: id, Day: day, Kind: api.LnPaid, Pence: pence}
}

// book returns a ledger of all kinds of lines.
func book() []api.Line {
	return []api.Line{feed(9, 2, 5), buy(4, 0, 7, 45), pay(6, 1, 3), dung(3, 2, 60), feed(2, 0, 3), buy(8, 730, 100000, 0)}
}

// long returns a ledger of so many lines.
func long(lines int) []api.Line {
	var l []api.Line
	for i := range lines {
		l = append(l, dung(api.MaxID-i, i, 1+i))
	}
	return l
}

// ledgers returns some ledgers that have no errors.
func ledgers() [][]api.Line {
	return [][]api.Line{nil, {}, book(), long(80), {feed(1, 0, 1)}, {buy(api.MaxID, 730, 100000, 1<<30)}}
}

// wrongLine is a line that is not formed.
type wrongLine struct {
	what string
	line api.Line
}

// wrongLines returns lines that are not formed.
func wrongLines() []wrongLine {
	all := []wrongLine{{"nothing", api.Line{}}}
	for _, right := range []api.Line{buy(4, 5, 6, 7), feed(4, 5, 6), dung(4, 5, 6), pay(4, 5, 6)} {
		bad := func(what string, change func(x *api.Line)) {
			line := right
			change(&line)
			all = append(all, wrongLine{what, line})
		}
		for _, n := range []int{0, -1, api.MaxID + 1, math.MinInt, math.MaxInt} {
			bad("ID", func(x *api.Line) { x.ID = n })
		}
		for _, n := range []int{-1, 731, math.MinInt, math.MaxInt} {
			bad("day", func(x *api.Line) { x.Day = n })
		}
		for _, n := range []int{0, -1, 5, math.MinInt, math.MaxInt} {
			bad("kind", func(x *api.Line) { x.Kind = n })
		}
		for _, n := range []int{-1, 1<<30 + 1, math.MinInt, math.MaxInt} {
			bad("pence", func(x *api.Line) { x.Pence = n })
		}
		for _, n := range []int{-1, 100001, math.MinInt, math.MaxInt} {
			bad("bushels", func(x *api.Line) { x.Bushels = n })
		}
		switch right.Kind {
		case api.LnBuy:
			bad("no bushels that are bought", func(x *api.Line) { x.Bushels = 0 })
		case api.LnFeed:
			bad("no bushels that are fed", func(x *api.Line) { x.Bushels = 0 })
			bad("what is fed for pence", func(x *api.Line) { x.Pence = 1 })
		default:
			bad("bushels for money", func(x *api.Line) { x.Bushels = 1 })
			bad("no money", func(x *api.Line) { x.Pence = 0 })
		}
	}
	return all
}

// wrongLedger is a ledger that has an error, which is its first one.
type wrongLedger struct {
	what string
	l    []api.Line
	e    api.Errno
}

// wrongLedgers returns ledgers that have errors.
func wrongLedgers() []wrongLedger {
	var all []wrongLedger
	for _, x := range wrongLines() {
		all = append(all, wrongLedger{x.what, []api.Line{x.line}, api.ErrForm},
			wrongLedger{x.what + " behind others", append(long(79), x.line), api.ErrForm},
			wrongLedger{x.what + " of too many lines", append(long(80), x.line), api.ErrLimit})
	}
	bad := api.Line{ID: 2, Kind: 5}
	return append(all,
		wrongLedger{"81 lines", long(81), api.ErrLimit},
		wrongLedger{"81 lines that are none", make([]api.Line, 81), api.ErrLimit},
		wrongLedger{"80 lines that are none", make([]api.Line, 80), api.ErrForm},
		wrongLedger{"an ID twice", []api.Line{feed(2, 0, 3), dung(3, 0, 3), pay(2, 1, 1)}, api.ErrTwice},
		wrongLedger{"a line twice", []api.Line{feed(2, 0, 3), feed(2, 0, 3)}, api.ErrTwice},
		wrongLedger{"an ID twice, then a bad line", []api.Line{feed(2, 0, 3), feed(2, 0, 3), bad}, api.ErrTwice},
		wrongLedger{"a bad line, then an ID twice", []api.Line{feed(2, 0, 3), bad, feed(2, 0, 3)}, api.ErrForm},
		wrongLedger{"a bad line with an ID twice", []api.Line{feed(2, 0, 3), bad}, api.ErrForm})
}

func TestCheckLines(t *testing.T) {
	right := append(ledgers(), []api.Line{buy(1, 0, 1, 0), feed(api.MaxID, 730, 100000), dung(2, 0, 1), dung(3, 730, 1<<30), pay(4, 0, 1), pay(5, 730, 1<<30)})
	for i, l := range right {
		if e := grain.CheckLines(l); e != api.OK {
			t.Errorf("P8.8: the right ledger %d: error %d", i, e)
		}
	}
	for _, x := range wrongLedgers() {
		fails(t, "P8.8: "+x.what, grain.CheckLines(x.l), x.e)
	}
}

// reading is a function with a ledger, or two: its results but for the error.
type reading struct {
	name string
	do   func(a, b []api.Line) ([]any, api.Errno)
}

// readings returns all functions with one ledger.
func readings(keep, day int) []reading {
	return []reading{
		{"CheckLines", func(a, _ []api.Line) ([]any, api.Errno) { return nil, grain.CheckLines(a) }},
		{"Stock", func(a, _ []api.Line) ([]any, api.Errno) { return two(grain.Stock(a, keep, day)) }},
		{"Short", func(a, _ []api.Line) ([]any, api.Errno) { return two(grain.Short(a, keep)) }},
		{"Purse", func(a, _ []api.Line) ([]any, api.Errno) { return one(grain.Purse(a, day)) }},
	}
}

// comparisons returns all functions with two ledgers.
func comparisons() []reading {
	return []reading{
		{"Part", func(a, b []api.Line) ([]any, api.Errno) { return one(grain.Part(a, b)) }},
		{"Agree", func(a, b []api.Line) ([]any, api.Errno) { return one(grain.Agree(a, b)) }},
		{"Merge", func(a, b []api.Line) ([]any, api.Errno) { return one(grain.Merge(a, b, false)) }},
		{"Merge", func(a, b []api.Line) ([]any, api.Errno) { return one(grain.Merge(a, b, true)) }},
	}
}

// failsWith reports a function that does not return just an error.
func failsWith(t *testing.T, promise, what string, r reading, a, b []api.Line, want api.Errno) {
	t.Helper()
	got, e := r.do(a, b)
	if e != want || slices.ContainsFunc(got, func(x any) bool { return !isZeroParting(x) }) {
		t.Errorf("%s: %s of %s: %v, error %d, want %d", promise, r.name, what, got, e, want)
	}
}

// isZeroParting says whether a result is a zero value, or has empty lists alone.
func isZeroParting(x any) bool {
	p, is := x.(api.Parting)
	return isZero(x) || is && len(p.One)+len(p.Two)+len(p.Other) == 0
}

func TestFirstErrorsOfLedgers(t *testing.T) {
	all := wrongLedgers()
	for _, x := range all {
		for _, n := range append(strange, 0, 60) {
			for _, r := range readings(n, n) {
				failsWith(t, "P8.8, P8.9, R3, R4", x.what, r, x.l, nil, x.e)
			}
		}
		for _, r := range comparisons() {
			for _, l := range ledgers() {
				failsWith(t, "P8.10, R4", x.what, r, x.l, l, x.e)
				failsWith(t, "P8.10, R4", x.what, r, l, x.l, x.e)
			}
			for _, y := range all[len(all)-8:] {
				failsWith(t, "P8.10, R3", x.what, r, x.l, y.l, x.e)
				failsWith(t, "P8.10, R3", y.what, r, y.l, x.l, y.e)
			}
		}
	}
}

func TestErrorsOfKeepAndDay(t *testing.T) {
	for _, l := range ledgers() {
		for _, n := range []int{-1, math.MinInt, math.MaxInt} {
			for _, r := range readings(n, n)[1:] {
				failsWith(t, "P8.8, P8.9, R4", "a day and nights that are none", r, l, nil, api.ErrArg)
			}
		}
		failsWith(t, "P8.8, R4", "61 nights", readings(61, 0)[1], l, nil, api.ErrArg)
		failsWith(t, "P8.8, R4", "61 nights", readings(61, 0)[2], l, nil, api.ErrArg)
		for _, day := range []int{-1, 731, math.MinInt, math.MaxInt} {
			failsWith(t, "P8.8, R4", "no day", readings(5, day)[1], l, nil, api.ErrArg)
			failsWith(t, "P8.9, R4", "no day", readings(5, day)[3], l, nil, api.ErrArg)
		}
		for _, r := range readings(60, 730) {
			if _, e := r.do(l, nil); e != api.OK {
				t.Errorf("P8.8, P8.9: %s for 60 nights, on the day 730: error %d", r.name, e)
			}
		}
	}
}

func TestPurse(t *testing.T) {
	for day, want := range map[int]int{0: -45, 1: -48, 2: 12, 3: 12, 729: 12, 730: 12} {
		n, e := grain.Purse(book(), day)
		is(t, "P8.9: Purse", n, e, want)
	}
	n, e := grain.Purse(nil, 730)
	is(t, "P8.9: Purse of nothing", n, e, 0)
	n, e = grain.Purse([]api.Line{buy(1, 0, 1, 1<<30)}, 0)
	is(t, "P8.9: Purse of the most", n, e, -1<<30)
	var l []api.Line
	for i := range 80 {
		l = append(l, dung(i+1, 730-i, 1<<30))
	}
	n, e = grain.Purse(l, 730)
	is(t, "P8.9: Purse of much dung", n, e, 80<<30)
	n, e = grain.Purse(l, 729)
	is(t, "P8.9: Purse of much dung, but for that of a day", n, e, 79<<30)
}

func TestPurseOfAllLedgers(t *testing.T) {
	d := dice(11)
	for range 500 {
		l := d.ledgerOf(d.roll(20), 40, 6)
		for day := range 8 {
			want := 0
			for _, x := range l {
				if x.Day <= day {
					want += map[int]int{api.LnBuy: -1, api.LnPaid: -1, api.LnDung: 1}[x.Kind] * x.Pence
				}
			}
			n, e := grain.Purse(l, day)
			is(t, "P8.9: Purse", n, e, want)
		}
	}
}

// lineOf returns the line of a ledger that has an ID, and whether there is one.
func lineOf(l []api.Line, id int) (api.Line, bool) {
	for _, x := range l {
		if x.ID == id {
			return x, true
		}
	}
	return api.Line{}, false
}

// byID returns lines by ID.
func byID(l []api.Line) []api.Line {
	l = slices.Clone(l)
	slices.SortFunc(l, func(x, y api.Line) int { return cmp.Compare(x.ID, y.ID) })
	return l
}

// isParted reports where two ledgers part otherwise than is wanted.
func isParted(t *testing.T, what string, a, b []api.Line, one, two, other []int) {
	t.Helper()
	p, e := grain.Part(a, b)
	if e != api.OK || !slices.Equal(p.One, one) || !slices.Equal(p.Two, two) || !slices.Equal(p.Other, other) {
		t.Errorf("P8.10: Part of %s: %v, error %d, want %v, %v, %v", what, p, e, one, two, other)
	}
}

func TestPart(t *testing.T) {
	a := book()
	isParted(t, "nothing", nil, []api.Line{}, nil, nil, nil)
	isParted(t, "a ledger and nothing", a, nil, []int{2, 3, 4, 6, 8, 9}, nil, nil)
	isParted(t, "nothing and a ledger", nil, a, nil, []int{2, 3, 4, 6, 8, 9}, nil)
	isParted(t, "a ledger and itself", a, a, nil, nil, nil)
	isParted(t, "a ledger and itself by ID", a, byID(a), nil, nil, nil)
	for i, change := range []func(x *api.Line){
		func(x *api.Line) { x.Day++ }, func(x *api.Line) { x.Bushels++ }, func(x *api.Line) { x.Pence++ },
		func(x *api.Line) { *x = feed(x.ID, x.Day, x.Bushels) },
	} {
		b := book()
		change(&b[1])
		isParted(t, "a ledger and one with a change", a, b, nil, nil, []int{4})
		if l, e := grain.Agree(a, b); e != api.OK || !slices.Equal(l, byID(slices.Delete(book(), 1, 2))) {
			t.Error("P8.10: Agree behind the change", i, l, e)
		}
	}
	b := []api.Line{pay(9, 2, 5), buy(5, 0, 7, 45), pay(6, 1, 4), dung(3, 2, 60), feed(10, 0, 3), feed(1, 0, 3)}
	isParted(t, "two ledgers", a, b, []int{2, 4, 8}, []int{1, 5, 10}, []int{6, 9})
	l, e := grain.Agree(a, b)
	same(t, "P8.10: Agree", l, e, dung(3, 2, 60))
	l, e = grain.Merge(a, b, true)
	same(t, "P8.10: Merge, the first one", l, e, feed(1, 0, 3), feed(2, 0, 3), dung(3, 2, 60), buy(4, 0, 7, 45), buy(5, 0, 7, 45), pay(6, 1, 3), buy(8, 730, 100000, 0), feed(9, 2, 5), feed(10, 0, 3))
	l, e = grain.Merge(a, b, false)
	same(t, "P8.10: Merge, the second one", l, e, feed(1, 0, 3), feed(2, 0, 3), dung(3, 2, 60), buy(4, 0, 7, 45), buy(5, 0, 7, 45), pay(6, 1, 4), buy(8, 730, 100000, 0), pay(9, 2, 5), feed(10, 0, 3))
	l, e = grain.Agree(a, nil)
	same(t, "P8.10: Agree with nothing", l, e)
	l, e = grain.Merge(nil, nil, true)
	same(t, "P8.10: Merge of nothing", l, e)
}

func TestLimitOfMerge(t *testing.T) {
	for _, first := range []bool{false, true} {
		l, e := grain.Merge(long(80), long(80), first)
		same(t, "P8.10: Merge of 80 lines", l, e, byID(long(80))...)
		l, e = grain.Merge(long(80)[:79], []api.Line{feed(1, 1, 1)}, first)
		same(t, "P8.10: Merge of 80 lines", l, e, byID(append(long(79), feed(1, 1, 1)))...)
		for _, x := range [][]api.Line{{feed(1, 1, 1)}, append(slices.Clone(long(80)[1:]), feed(1, 1, 1))} {
			l, e = grain.Merge(long(80), x, first)
			if e != api.ErrLimit || len(l) != 0 {
				t.Error("P8.10: Merge of 81 lines:", l, e)
			}
			l, e = grain.Merge(x, long(80), first)
			if e != api.ErrLimit || len(l) != 0 {
				t.Error("P8.10: Merge of 81 lines:", l, e)
			}
		}
	}
}

// bent returns a ledger that is about the same as one.
func (d *dice) bent(l []api.Line) []api.Line {
	l = slices.Clone(l)
	for i := range l {
		switch d.roll(6) {
		case 0:
			l[i].Day++
		case 1:
			l[i] = feed(l[i].ID, l[i].Day, 1)
		case 2:
			l[i].ID += 100
		}
	}
	at := d.roll(len(l) + 1)
	l = slices.Concat(l[at:], l[:at])
	return l[:d.roll(len(l)+1)]
}

// TestTwoHands holds Part, Agree and Merge to the chapter's words.
func TestTwoHands(t *testing.T) {
	d := dice(12)
	for range 1000 {
		a := d.ledgerOf(d.roll(12), 20, 5)
		b := d.bent(a)
		var one, two, other []int
		var alike, merged, turned []api.Line
		for id := range 200 {
			x, inA := lineOf(a, id)
			y, inB := lineOf(b, id)
			switch {
			case inA && !inB:
				one, merged, turned = append(one, id), append(merged, x), append(turned, x)
			case inB && !inA:
				two, merged, turned = append(two, id), append(merged, y), append(turned, y)
			case inA && x == y:
				alike, merged, turned = append(alike, x), append(merged, x), append(turned, x)
			case inA:
				other, merged, turned = append(other, id), append(merged, x), append(turned, y)
			}
		}
		isParted(t, "two ledgers", a, b, one, two, other)
		isParted(t, "both turned (P8.17)", b, a, two, one, other)
		isParted(t, "a ledger and itself (P8.17)", b, slices.Clone(b), nil, nil, nil)
		for i := range 2 {
			from, to := [][]api.Line{a, b}[i], [][]api.Line{b, a}[i]
			l, e := grain.Agree(from, to)
			same(t, "P8.10: Agree", l, e, alike...)
			l, e = grain.Merge(from, to, i == 0)
			same(t, "P8.10, P8.17: Merge", l, e, merged...)
			l, e = grain.Merge(from, to, i != 0)
			same(t, "P8.10, P8.17: Merge of the other one", l, e, turned...)
		}
		if t.Failed() {
			t.Fatal(a, b)
		}
	}
}

// TestAgreeingHands holds Stock and Purse of ledgers that agree alone to be the same.
func TestAgreeingHands(t *testing.T) {
	d := dice(13)
	for range 200 {
		a := d.ledgerOf(d.roll(12), 20, 9)
		b := slices.Clone(a)
		for i := range b {
			j := i + d.roll(len(b)-i)
			b[i], b[j] = b[j], b[i]
		}
		for day := range 12 {
			keep := d.roll(5)
			n, bad, e := grain.Stock(a, keep, day)
			m, worse, f := grain.Stock(b, keep, day)
			x, g := grain.Purse(a, day)
			y, h := grain.Purse(b, day)
			if n != m || bad != worse || x != y || e != f || g != h {
				t.Fatalf("P8.17: on the day %d: Stock %d, %d and %d, %d, Purse %d and %d of %v and %v", day, n, bad, m, worse, x, y, a, b)
			}
		}
	}
}

func TestLines(t *testing.T) {
	l, e := grain.Lines(example(), false, proved())
	same(t, "P8.11: Lines of the examples", l, e, buy(1, 0, 7, 45), feed(2, 0, 4), feed(4, 1, 3), buy(5, 2, 6, 32), feed(8, 3, 6))
	most := api.Lots{Bought: []int{0, 0, -1, 2}, Cost: 98, Prices: []int{30, 30, 0, 38}}
	l, e = grain.Lines(example(), true, most)
	same(t, "P8.11: Lines for the most of the examples", l, e, buy(1, 0, 9, 55), feed(2, 0, 4), feed(4, 1, 5), buy(5, 2, 6, 32), feed(8, 3, 6))
	l, e = grain.Lines(lone(api.Market{Price: 5, Fare: 3}), true, api.Lots{Bought: []int{-1}, Prices: []int{0}})
	same(t, "P8.11: Lines of nothing", l, e)
	all := checkBest(t, dear(), false, 100000+60*1000*1000+1000*1000*59*60/2)
	l, e = grain.Lines(dear(), false, all)
	if e != api.OK || len(l) != 61 || l[0] != buy(1, 0, 60000, 60100000) || l[60] != feed(120, 59, 1000) {
		t.Error("P8.11: Lines of a dear way:", l, e)
	}
	for _, lots := range []api.Lots{{}, with(proved(), 30, 17, 0, 39), {Bought: proved().Bought, Cost: 85, Prices: proved().Prices}, most} {
		for _, c := range named(input{l: lots}, "Lines") {
			failsAt(t, "P8.11, R4", "what CheckBest refuses", c, example(), api.ErrState)
		}
	}
	for _, c := range named(input{most: true, l: proved()}, "Lines") {
		failsAt(t, "P8.11", "lots for the least, with the most", c, example(), api.ErrState)
	}
}

func TestLimitOfLines(t *testing.T) {
	for days, want := range map[int]api.Errno{40: api.OK, 41: api.ErrLimit, 60: api.ErrLimit} {
		b := alike(days, 1, 0, api.Market{Price: 1, Need: span(1, 1)})
		lots := checkBest(t, b, false, days)
		l, e := grain.Lines(b, false, lots)
		if e != want || e == api.OK && len(l) != 80 || e != api.OK && len(l) != 0 {
			t.Errorf("P8.11: Lines of %d days: %v, error %d, want %d", days, l, e, want)
		}
		lots.Cost++
		l, e = grain.Lines(b, false, lots)
		if e != api.ErrState || len(l) != 0 {
			t.Errorf("P8.11, R3: Lines of %d days that are not proved: %v, error %d", days, l, e)
		}
	}
}

// TestLinesOfAllBarns holds Lines of all cheapest ways to the chapter's words, and to what follows.
func TestLinesOfAllBarns(t *testing.T) {
	d := dice(14)
	some := 0
	for range 400 {
		b, most := d.rolled(1+d.roll(5)), d.roll(2) == 0
		lots, e := grain.Best(b, most)
		if e != api.OK {
			continue
		}
		for _, w := range cheapestOf(pricedWays(b, most)) {
			some++
			checkLines(t, b, most, api.Lots{Bought: w.bought, Cost: w.cost, Prices: lots.Prices})
		}
	}
	for range 100 {
		b, most := d.great(1+d.roll(40)), d.roll(2) == 0
		if lots, e := grain.Best(b, most); e == api.OK {
			some++
			checkLines(t, b, most, lots)
		}
	}
	if some < 500 {
		t.Error("the barns are too much alike:", some)
	}
}

// checkLines holds Lines of some lots to the chapter's words, and to what follows.
func checkLines(t *testing.T, b api.Barn, most bool, lots api.Lots) {
	t.Helper()
	var want []api.Line
	nights := 0
	for day, m := range b.Days {
		line := api.Line{ID: 2*day + 1, Day: day, Kind: api.LnBuy, Pence: m.Fare}
		for u, i := range lots.Bought {
			if i == day {
				line.Bushels += needOf(b, most, u)
				line.Pence += needOf(b, most, u) * m.Price
				nights += needOf(b, most, u) * b.Night * (u - i)
			}
		}
		if line.Bushels > 0 {
			want = append(want, line)
		}
		if needOf(b, most, day) > 0 {
			want = append(want, feed(2*day+2, day, needOf(b, most, day)))
		}
	}
	l, e := grain.Lines(b, most, lots)
	if len(want) > api.MaxLines {
		fails(t, "P8.11: Lines", e, api.ErrLimit)
		return
	}
	if same(t, "P8.11: Lines", l, e, want...); t.Failed() {
		t.Fatal(b, lots)
	}
	last := len(b.Days) - 1
	day, is, e := grain.Short(l, b.Keep)
	there, bad, f := grain.Stock(l, b.Keep, last)
	purse, g := grain.Purse(l, last)
	if is || there != 0 || bad != 0 || purse != nights-lots.Cost || e != api.OK || f != api.OK || g != api.OK {
		t.Fatalf("P8.16: Short on %d, %v, Stock %d, %d, Purse %d of %v, with %d for the nights", day, is, there, bad, purse, lots, nights)
	}
}

func TestLedgersStayTheSame(t *testing.T) {
	for _, a := range ledgers() {
		for _, b := range ledgers() {
			x, wholeA := spread(a, feed(77, 7, 7))
			y, wholeB := spread(b, feed(77, 7, 7))
			beforeA, beforeB := slices.Clone(wholeA), slices.Clone(wholeB)
			for _, r := range append(readings(3, 5), comparisons()...) {
				first, _ := r.do(x, y)
				second, _ := r.do(x, y)
				for _, z := range first {
					spoil(reflect.ValueOf(z))
				}
				third, _ := r.do(x, y)
				if !slices.Equal(wholeA, beforeA) || !slices.Equal(wholeB, beforeB) {
					t.Fatalf("R6: %s: the ledgers are %v, %v", r.name, wholeA, wholeB)
				}
				if !reflect.DeepEqual(second, third) {
					t.Fatalf("R6, R7: %s: %v, and %v of the same", r.name, second, third)
				}
			}
		}
	}
}
