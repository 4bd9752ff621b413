package round_test

import (
	"math/bits"
	"slices"
	"testing"

	"potence/api"
	"potence/round"
)

// truth is what is so of the rounds of a house, found by going through all sets of open stands; sets of columns are bits.
type truth struct {
	none           bool
	count          int
	needed, useful int
	reach          []int // of each stand
	open           int
}

// listOf returns the numbers of the bits of a set.
func listOf(set int) []int {
	var l []int
	for set > 0 {
		l = append(l, bits.TrailingZeros(uint(set)))
		set &= set - 1
	}
	return l
}

// setOf returns the set of numbers.
func setOf(l []int) int {
	set := 0
	for _, x := range l {
		set |= 1 << x
	}
	return set
}

// truthOf goes through all sets of open stands.
func truthOf(h api.House, wanted int) truth {
	n := h.Columns
	t := truth{none: true, open: 1<<n - 1 - setOf(h.Closed), reach: make([]int, n)}
	for s := range n {
		for d := -h.Back; d <= h.Fore; d++ {
			t.reach[s] |= 1 << ((s + d + n) % n)
		}
	}
	seen := make([]int, 1<<n)
	for set := range 1 << n {
		if set > 0 {
			seen[set] = seen[set&(set-1)] | t.reach[bits.TrailingZeros(uint(set))]
		}
		size := bits.OnesCount(uint(set))
		if set&^t.open != 0 || wanted&^seen[set] != 0 || !t.none && size > t.count {
			continue
		}
		if t.none || size < t.count {
			t.none, t.count, t.needed, t.useful = false, size, set, set
		}
		t.needed &= set
		t.useful |= set
	}
	return t
}

// proves says whether a round is as few stands as possible, as its cuts show, by the words of the chapter.
func (t truth) proves(wanted int, r api.Round) bool {
	got := 0
	for i, s := range r.Stands {
		if s < 0 || s >= len(t.reach) || t.open>>s&1 == 0 || i > 0 && s <= r.Stands[i-1] {
			return false
		}
		got |= t.reach[s]
	}
	if wanted == 0 {
		return len(r.Stands) == 0 && len(r.Cuts) == 0
	}
	if wanted&^got != 0 {
		return false
	}
	var firsts []int
	for s, reach := range t.reach {
		if t.open>>s&1 == 1 && reach>>bits.TrailingZeros(uint(wanted))&1 == 1 {
			firsts = append(firsts, s)
		}
	}
	if len(firsts) != len(r.Cuts) {
		return false
	}
	for i, c := range r.Cuts {
		if c.Stand != firsts[i] || len(c.Columns) != len(r.Stands)-1 || !t.cuts(wanted, c) {
			return false
		}
	}
	return true
}

// cuts says whether a cut with an open stand is one.
func (t truth) cuts(wanted int, c api.Cut) bool {
	for i, x := range c.Columns {
		if x < 0 || x >= len(t.reach) || wanted>>x&1 == 0 || t.reach[c.Stand]>>x&1 == 1 || i > 0 && x <= c.Columns[i-1] {
			return false
		}
	}
	for s, reach := range t.reach {
		if t.open>>s&1 == 1 && bits.OnesCount(uint(reach&setOf(c.Columns))) > 1 {
			return false
		}
	}
	return true
}

// holesIn returns holes that lie in columns, in no order, some of them more than once, in all rings.
func holesIn(h api.House, wanted int) []int {
	var l []int
	for i, c := range listOf(wanted) {
		l = append(l, (i%h.Rings)*h.Columns+c)
		if i%2 == 0 {
			l = append(l, (h.Rings-1)*h.Columns+c, c)
		}
	}
	slices.Reverse(l)
	return l
}

// eachSmall calls do with each house of at most so many columns, and each set of columns.
func eachSmall(columns int, do func(h api.House, wanted int)) {
	for n := 3; n <= columns; n++ {
		for back := range n {
			for fore := range n - back {
				for shut := range 1 << n {
					for wanted := range 1 << n {
						do(api.House{Columns: n, Rings: 2, Back: back, Fore: fore, Closed: listOf(shut)}, wanted)
					}
				}
			}
		}
	}
}

// dice are numbers that are the same in each run.
type dice uint64

// roll returns a number less than n.
func (d *dice) roll(n int) int {
	*d = *d*6364136223846793005 + 1442695040888963407
	return int(uint64(*d)>>33) % n
}

// eachLarger calls do with some houses of 7 to 11 columns, and sets of columns.
func eachLarger(times int, do func(h api.House, wanted int)) {
	d := dice(1)
	for range times {
		n := 7 + d.roll(5)
		h := api.House{Columns: n, Rings: 1 + d.roll(3), Back: d.roll(4), Fore: d.roll(4)}
		shut := d.roll(1<<n) & d.roll(1<<n)
		h.Closed = listOf(shut)
		do(h, d.roll(1<<n)|d.roll(1<<n))
	}
}

// compare holds all that is told of rounds against the truth.
func compare(t *testing.T, h api.House, wanted int) {
	holes, is := holesIn(h, wanted), truthOf(h, wanted)
	r, e := round.Fewest(h, holes)
	n, f := round.Count(h, holes)
	needed, g := round.Needed(h, holes)
	useful, i := round.Useful(h, holes)
	saves, k := round.Saves(h, holes)
	want := api.OK
	if is.none {
		want = api.ErrNone
		is = truth{reach: is.reach, open: is.open}
	}
	if e != want || f != want || g != want || i != want || k != want {
		t.Fatalf("P1.4, P1.5: %+v, columns %v: errors %d %d %d %d %d, want %d", h, listOf(wanted), e, f, g, i, k, want)
	}
	if n != is.count || len(r.Stands) != n {
		t.Fatalf("P1.4: %+v, columns %v: count %d, round %v, want %d", h, listOf(wanted), n, r, is.count)
	}
	var less []int
	for _, c := range listOf(wanted) {
		if want == api.OK && truthOf(h, wanted&^(1<<c)).count < is.count {
			less = append(less, c)
		}
	}
	if setOf(needed) != is.needed || setOf(useful) != is.useful || !slices.Equal(saves, less) || !slices.IsSorted(needed) || !slices.IsSorted(useful) {
		t.Fatalf("P1.5: %+v, columns %v: needed %v, useful %v, saves %v; want %v %v %v", h, listOf(wanted), needed, useful, saves, listOf(is.needed), listOf(is.useful), less)
	}
	if want == api.OK && (!is.proves(wanted, r) || round.CheckFewest(h, holes, r) != api.OK) {
		t.Fatalf("P1.4, P1.9: %+v, columns %v: %v is no proof", h, listOf(wanted), r)
	}
}

func TestRoundsOfSmallHouses(t *testing.T) {
	eachSmall(5, func(h api.House, wanted int) { compare(t, h, wanted) })
}

func TestRoundsOfLargerHouses(t *testing.T) {
	eachLarger(3000, func(h api.House, wanted int) { compare(t, h, wanted) })
}

func TestExample(t *testing.T) {
	h, holes := example()
	n, e := round.Count(h, holes)
	if e != api.OK || n != 3 {
		t.Error("P1.4: count of the example:", n, e)
	}
	r, e := round.Fewest(h, holes)
	if e != api.OK || len(r.Stands) != 3 || len(r.Cuts) != 4 || round.CheckFewest(h, holes, r) != api.OK {
		t.Error("P1.4: fewest of the example:", r, e)
	}
	x, e := round.Needed(h, holes)
	same(t, "P1.5: needed in the example", x, e)
	x, e = round.Useful(h, holes)
	same(t, "P1.5: useful in the example", x, e, 0, 1, 2, 3, 6, 7, 8, 9, 10, 11)
	x, e = round.Saves(h, holes)
	same(t, "P1.5: saves in the example", x, e, 2, 6)
}

// own returns a round of the example with cuts, as the chapter has them.
func own() api.Round {
	return api.Round{Stands: []int{1, 6, 9}, Cuts: []api.Cut{
		{Stand: 0, Columns: []int{5, 9}}, {Stand: 1, Columns: []int{5, 9}}, {Stand: 2, Columns: []int{5, 9}}, {Stand: 3, Columns: []int{6, 10}}}}
}

func TestCheckFewestOfTheExample(t *testing.T) {
	h, holes := example()
	for _, x := range []struct {
		what   string
		change func(r *api.Round)
		e      api.Errno
	}{
		{"nothing", func(r *api.Round) {}, api.OK},
		{"another round", func(r *api.Round) { r.Stands = []int{2, 7, 10} }, api.ErrProof},
		{"another fewest round", func(r *api.Round) { r.Stands = []int{0, 6, 9} }, api.OK},
		{"a stand more", func(r *api.Round) { r.Stands = []int{1, 6, 9, 10} }, api.ErrProof},
		{"a stand less", func(r *api.Round) { r.Stands = []int{6, 9} }, api.ErrProof},
		{"a closed stand", func(r *api.Round) { r.Stands = []int{1, 5, 9} }, api.ErrProof},
		{"stands in no order", func(r *api.Round) { r.Stands = []int{6, 1, 9} }, api.ErrProof},
		{"a stand twice", func(r *api.Round) { r.Stands = []int{6, 6, 9} }, api.ErrProof},
		{"no stand", func(r *api.Round) { r.Stands = []int{1, 6, 12} }, api.ErrProof},
		{"no stands", func(r *api.Round) { r.Stands = nil }, api.ErrProof},
		{"nothing at all", func(r *api.Round) { *r = api.Round{} }, api.ErrProof},
		{"no cuts", func(r *api.Round) { r.Cuts = nil }, api.ErrProof},
		{"a cut less", func(r *api.Round) { r.Cuts = r.Cuts[:3] }, api.ErrProof},
		{"a cut more", func(r *api.Round) { r.Cuts = append(r.Cuts, api.Cut{Stand: 6, Columns: []int{9, 11}}) }, api.ErrProof},
		{"cuts in another order", func(r *api.Round) { r.Cuts[0], r.Cuts[1] = r.Cuts[1], r.Cuts[0] }, api.ErrProof},
		{"a cut twice", func(r *api.Round) { r.Cuts[1] = r.Cuts[0] }, api.ErrProof},
		{"a column reached from the stand", func(r *api.Round) { r.Cuts[0].Columns[0] = 2 }, api.ErrProof},
		{"a column that is not wanted", func(r *api.Round) { r.Cuts[0].Columns[0] = 4 }, api.ErrProof},
		{"no column", func(r *api.Round) { r.Cuts[0].Columns[1] = 12 }, api.ErrProof},
		{"less than a column", func(r *api.Round) { r.Cuts[0].Columns[0] = -1 }, api.ErrProof},
		{"a column twice", func(r *api.Round) { r.Cuts[0].Columns[0] = 9 }, api.ErrProof},
		{"columns in no order", func(r *api.Round) { r.Cuts[0].Columns = []int{9, 5} }, api.ErrProof},
		{"a column less", func(r *api.Round) { r.Cuts[0].Columns = []int{5} }, api.ErrProof},
		{"a column more", func(r *api.Round) { r.Cuts[0].Columns = []int{5, 9, 10} }, api.ErrProof},
		{"two columns of one stand", func(r *api.Round) { r.Cuts[3].Columns = []int{6, 9} }, api.ErrProof},
		{"200 stands", func(r *api.Round) { r.Stands = make([]int, 200) }, api.ErrProof},
		{"201 stands", func(r *api.Round) { r.Stands = make([]int, 201) }, api.ErrLimit},
		{"200 cuts", func(r *api.Round) { r.Cuts = make([]api.Cut, 200) }, api.ErrProof},
		{"201 cuts", func(r *api.Round) { r.Cuts = make([]api.Cut, 201) }, api.ErrLimit},
		{"200 columns", func(r *api.Round) { r.Cuts[0].Columns = make([]int, 200) }, api.ErrProof},
		{"201 columns", func(r *api.Round) { r.Cuts[3].Columns = make([]int, 201) }, api.ErrLimit},
		{"201 columns behind what is wrong", func(r *api.Round) { r.Stands = nil; r.Cuts[3].Columns = make([]int, 201) }, api.ErrLimit},
	} {
		r := own()
		x.change(&r)
		fails(t, "P1.4: changed: "+x.what, round.CheckFewest(h, holes, r), x.e)
	}
}

func TestCheckFewestOfNoHoles(t *testing.T) {
	h, _ := example()
	for _, x := range []struct {
		r api.Round
		e api.Errno
	}{
		{api.Round{}, api.OK},
		{api.Round{Stands: []int{}, Cuts: []api.Cut{}}, api.OK},
		{api.Round{Stands: []int{1}}, api.ErrProof},
		{api.Round{Cuts: []api.Cut{{Stand: 1}}}, api.ErrProof},
		{api.Round{Stands: []int{1}, Cuts: []api.Cut{{Stand: 1}}}, api.ErrProof},
		{api.Round{Cuts: []api.Cut{{Columns: make([]int, 201)}}}, api.ErrLimit},
	} {
		fails(t, "P1.4: check of no holes", round.CheckFewest(h, nil, x.r), x.e)
	}
	r, e := round.Fewest(h, nil)
	if e != api.OK || len(r.Stands) != 0 || len(r.Cuts) != 0 {
		t.Error("P1.4: fewest of no holes:", r, e)
	}
	n, e := round.Count(h, nil)
	if e != api.OK || n != 0 {
		t.Error("P1.4: count of no holes:", n, e)
	}
	for i, do := range []func(api.House, []int) ([]int, api.Errno){round.Needed, round.Useful, round.Saves} {
		l, e := do(h, nil)
		same(t, []string{"P1.5: needed of none", "P1.5: useful of none", "P1.5: saves of none"}[i], l, e)
	}
}

func TestNoRound(t *testing.T) {
	h, holes := example()
	shut, _ := round.Close(h, []int{6, 7})
	r, e := round.Fewest(shut, holes)
	fails(t, "P1.4: fewest", e, api.ErrNone)
	if len(r.Stands) != 0 || len(r.Cuts) != 0 {
		t.Error("P1.4: a round beside an error:", r)
	}
	n, e := round.Count(shut, holes)
	fails(t, "P1.4: count", e, api.ErrNone)
	if n != 0 {
		t.Error("P1.4: a count beside an error:", n)
	}
	for _, do := range []func(api.House, []int) ([]int, api.Errno){round.Needed, round.Useful, round.Saves} {
		l, e := do(shut, holes)
		fails(t, "P1.5: no round", e, api.ErrNone)
		empty(t, "P1.5: no round", l)
	}
	fails(t, "P1.4: a proof where there is no round", round.CheckFewest(shut, holes, own()), api.ErrProof)
	one := api.House{Columns: 3, Rings: 1, Closed: []int{0}}
	fails(t, "P1.4: a column that no stand reaches", round.CheckFewest(one, []int{0}, api.Round{}), api.ErrProof)
	fails(t, "P1.4: a column that no stand reaches", round.CheckFewest(one, []int{0}, api.Round{Stands: []int{1}}), api.ErrProof)
}

func TestLimitsOfRounds(t *testing.T) {
	h := api.House{Columns: 120, Rings: 16}
	l := upTo(200)
	r, e := round.Fewest(h, l)
	if e != api.OK || len(r.Stands) != 120 || len(r.Cuts) != 1 || len(r.Cuts[0].Columns) != 119 || round.CheckFewest(h, l, r) != api.OK {
		t.Error("P1.4: each column needs a stand:", len(r.Stands), len(r.Cuts), e)
	}
	x, e := round.Needed(h, l)
	same(t, "P1.5: each stand is needed", x, e, upTo(120)...)
	h.Back = 119
	r, e = round.Fewest(h, l)
	if e != api.OK || len(r.Stands) != 1 || len(r.Cuts) != 120 || round.CheckFewest(h, l, r) != api.OK {
		t.Error("P1.4: each stand is enough:", len(r.Stands), len(r.Cuts), e)
	}
	x, e = round.Useful(h, l)
	same(t, "P1.5: each stand is useful", x, e, upTo(120)...)
}

// altered yields changes of a round, one after the other, of which some are still right.
func altered(r api.Round, columns int, do func(api.Round)) {
	fresh := func() api.Round {
		c := api.Round{Stands: slices.Clone(r.Stands)}
		for _, x := range r.Cuts {
			c.Cuts = append(c.Cuts, api.Cut{Stand: x.Stand, Columns: slices.Clone(x.Columns)})
		}
		return c
	}
	lists := func(c *api.Round) []*[]int {
		l := []*[]int{&c.Stands}
		for i := range c.Cuts {
			l = append(l, &c.Cuts[i].Columns)
		}
		return l
	}
	c := fresh()
	for i, l := range lists(&c) {
		for at := range len(*l) + 1 {
			for x := -1; x <= columns; x++ {
				more := fresh()
				m := lists(&more)[i]
				*m = slices.Insert(*m, at, x)
				do(more)
				if at < len(*l) {
					other := fresh()
					(*lists(&other)[i])[at] = x
					do(other)
				}
			}
			if at < len(*l) {
				less := fresh()
				m := lists(&less)[i]
				*m = slices.Delete(*m, at, at+1)
				do(less)
			}
		}
	}
	for i := range r.Cuts {
		for x := -1; x <= columns; x++ {
			other := fresh()
			other.Cuts[i].Stand = x
			do(other)
		}
		less := fresh()
		less.Cuts = slices.Delete(less.Cuts, i, i+1)
		do(less)
		more := fresh()
		more.Cuts = slices.Insert(more.Cuts, i, fresh().Cuts[i])
		do(more)
		swapped := fresh()
		swapped.Cuts[0], swapped.Cuts[i] = swapped.Cuts[i], swapped.Cuts[0]
		do(swapped)
	}
}

func TestCheckFewestOfChangedRounds(t *testing.T) {
	accepted, refused := 0, 0
	d := dice(7)
	eachSmall(5, func(h api.House, wanted int) {
		if d.roll(16) > 0 {
			return
		}
		is, holes := truthOf(h, wanted), holesIn(h, wanted)
		r, _ := round.Fewest(h, holes)
		altered(r, h.Columns, func(c api.Round) {
			e := round.CheckFewest(h, holes, c)
			if want := is.proves(wanted, c); want != (e == api.OK) || !want && e != api.ErrProof {
				t.Fatalf("P1.4: %+v, columns %v: %+v is accepted with %d; right: %v", h, listOf(wanted), c, e, want)
			}
			if e == api.OK {
				accepted++
				if len(c.Stands) != is.count {
					t.Fatalf("P1.9: %+v, columns %v: %+v is accepted", h, listOf(wanted), c)
				}
			} else {
				refused++
			}
		})
	})
	if accepted < 1000 || refused < 1000 {
		t.Error("P1.9: too few changes:", accepted, refused)
	}
}

// larger is whether a count, with its error, is greater than another one; that there is no round is greater than all.
func larger(n int, e api.Errno, than int) bool { return e == api.ErrNone || n > than }

func TestStandsOfFewestRounds(t *testing.T) {
	eachLarger(300, func(h api.House, wanted int) {
		holes := holesIn(h, wanted)
		n, e := round.Count(h, holes)
		if e != api.OK {
			return
		}
		needed, _ := round.Needed(h, holes)
		useful, _ := round.Useful(h, holes)
		for s := range h.Columns {
			shut, _ := round.Close(h, []int{s})
			m, e := round.Count(shut, holes)
			if !slices.Contains(h.Closed, s) && larger(m, e, n) != slices.Contains(needed, s) {
				t.Fatalf("P1.10: %+v, columns %v: needed %v, but with %d closed %d for %d", h, listOf(wanted), needed, s, m, n)
			}
			if !slices.Contains(useful, s) && (e != api.OK || m != n) {
				t.Fatalf("P1.10: %+v, columns %v: useful %v, but with %d closed %d for %d", h, listOf(wanted), useful, s, m, n)
			}
			if wanted != 0 && slices.Contains(needed, s) && !slices.Contains(useful, s) {
				t.Fatalf("P1.10: %+v, columns %v: %d is needed and not useful", h, listOf(wanted), s)
			}
		}
	})
}

func TestMoreHoles(t *testing.T) {
	d := dice(3)
	eachLarger(500, func(h api.House, wanted int) {
		n, e := round.Count(h, holesIn(h, wanted))
		if e != api.OK {
			return
		}
		for c := range h.Columns {
			m, e := round.Count(h, holesIn(h, wanted|1<<c))
			stands, _ := round.Stands(h, c)
			if (e == api.OK) != (len(stands) > 0) || e == api.OK && (m < n || m > n+1) {
				t.Fatalf("P1.11: %+v, columns %v: %d, and with %d more %d, error %d", h, listOf(wanted), n, c, m, e)
			}
		}
		part := d.roll(1<<h.Columns) & wanted
		a, e := round.Count(h, holesIn(h, part))
		b, f := round.Count(h, holesIn(h, wanted&^part))
		if e != api.OK || f != api.OK || a > n || b > n || a+b < n {
			t.Fatalf("P1.11: %+v, columns %v: %d, and in two parts %d and %d", h, listOf(wanted), n, a, b)
		}
	})
}

func TestFurtherReach(t *testing.T) {
	eachLarger(500, func(h api.House, wanted int) {
		holes := holesIn(h, wanted)
		n, e := round.Count(h, holes)
		if e != api.OK {
			return
		}
		for s := range h.Columns {
			shut, _ := round.Close(h, []int{s})
			if m, e := round.Count(shut, holes); e != api.ErrNone && m < n {
				t.Fatalf("P1.12: %+v, columns %v: %d, and with %d closed %d", h, listOf(wanted), n, s, m)
			}
		}
		if h.Back+h.Fore+1 == h.Columns {
			return
		}
		back, fore := h, h
		back.Back++
		fore.Fore++
		a, e := round.Count(back, holes)
		b, f := round.Count(fore, holes)
		if e != api.OK || f != api.OK || a > n || b > n {
			t.Fatalf("P1.12: %+v, columns %v: %d, and with further reach %d and %d", h, listOf(wanted), n, a, b)
		}
	})
}

// turnedList returns columns that are turned, in increasing order.
func turnedList(h api.House, l []int, by int) []int {
	var out []int
	for _, c := range l {
		out = append(out, ((c+by)%h.Columns+h.Columns)%h.Columns)
	}
	slices.Sort(out)
	return out
}

func TestTurnedRounds(t *testing.T) {
	eachLarger(500, func(h api.House, wanted int) {
		for _, by := range []int{1, -3, 5, 120} {
			g, e := round.Turned(h, by)
			fails(t, "P1.8: turned", e, api.OK)
			holes, other := holesIn(h, wanted), holesIn(g, setOf(turnedList(h, listOf(wanted), by)))
			n, e := round.Count(h, holes)
			m, f := round.Count(g, other)
			if n != m || e != f {
				t.Fatalf("P1.14: %+v, columns %v: %d, error %d; turned by %d: %d, error %d", h, listOf(wanted), n, e, by, m, f)
			}
			for i, do := range []func(api.House, []int) ([]int, api.Errno){round.Needed, round.Useful, round.Saves} {
				a, _ := do(h, holes)
				b, _ := do(g, other)
				if !slices.Equal(turnedList(h, a, by), b) {
					t.Fatalf("P1.14: %+v, columns %v: %v; turned by %d: %v (%d)", h, listOf(wanted), a, by, b, i)
				}
			}
		}
	})
}

func TestRoundsAreNewMemory(t *testing.T) {
	h, holes := example()
	a, _ := round.Fewest(h, holes)
	b, _ := round.Fewest(h, holes)
	for i := range a.Stands {
		a.Stands[i] = -7
	}
	for _, c := range a.Cuts {
		for i := range c.Columns {
			c.Columns[i] = -7
		}
	}
	if e := round.CheckFewest(h, holes, b); e != api.OK {
		t.Error("R6: a round shares memory with another one:", b)
	}
	r := own()
	round.CheckFewest(h, holes, r)
	if !slices.Equal(r.Stands, own().Stands) || !slices.EqualFunc(r.Cuts, own().Cuts, func(a, b api.Cut) bool { return a.Stand == b.Stand && slices.Equal(a.Columns, b.Columns) }) {
		t.Error("R6: CheckFewest changes the round:", r)
	}
	c, _ := round.Fewest(h, holes)
	for i := range c.Cuts {
		all := c.Cuts[i].Columns
		all = all[:cap(all)]
		for j := range all {
			all[j] = -7
		}
		c.Cuts[i].Columns = b.Cuts[i].Columns
		if e := round.CheckFewest(h, holes, c); e != api.OK {
			t.Error("R6: the lists of a round share memory:", c)
		}
	}
}
