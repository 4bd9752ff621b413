package nest_test

import (
	"math"
	"reflect"
	"slices"
	"testing"

	"potence/api"
	"potence/nest"
)

func TestFits(t *testing.T) {
	right := []int{1, 1, 2, 2, 2, 2, 3, 3, 3, 3, 3, 3, 0}
	bent := func(day, phase int) []int {
		life := slices.Clone(right)
		life[day] = phase
		return life
	}
	for _, x := range []struct {
		told int
		life []int
		day  int
		ok   bool
	}{
		{3, right, 0, true},
		{2, right, 12, false}, // a Taken change, and no taking
		{4, right, 5, false},  // the eggs that are seen
		{3, bent(0, 0), 2, false},
		{3, bent(0, 3), 1, false},
		{3, bent(6, 2), 6, false},
		{3, bent(12, 3), 12, false},
		{3, bent(5, 4), 5, false},
		{3, bent(5, -1), 5, false},
		{3, bent(12, math.MaxInt), 12, false},
		{3, bent(0, math.MinInt), 0, false},
		{3, []int{0, 0, 0, 0, 0, 0, 0, 0, 0, 0, 0, 0, 0}, 3, false},
		{0, []int{0, 0, 0, 0, 0, 0, 0, 0, 0, 0, 0, 0, 0}, 0, true},
		{0, []int{0, 1, 1, 2, 2, 2, 3, 3, 3, 3, 3, 3, 3}, 12, false},
		{0, []int{0, 0, 0, 1, 1, 2, 2, 2, 3, 3, 3, 3, 3}, 0, true},
		{0, []int{0, 0, 0, 1, 1, 2, 2, 3, 3, 3, 3, 3, 3}, 7, false},
		{0, []int{2, 3, 3, 3, 3, 3, 3, 0, 0, 0, 0, 0, 0}, 7, false},
	} {
		if day, ok, e := nest.Fits(example(x.told), x.life); e != api.OK || ok != x.ok || day != x.day {
			t.Errorf("P4.2: %v: %v on the day %d, error %d, want %v on the day %d", x.life, ok, day, e, x.ok, x.day)
		}
	}
	for _, n := range []int{0, 1, 12, 14, 121} {
		for _, told := range []int{0, 3, 4} {
			if day, ok, e := nest.Fits(example(told), make([]int, n)); e != api.ErrArg || ok || day != 0 {
				t.Errorf("P4.2: %d days: %v on the day %d, error %d", n, ok, day, e)
			}
		}
	}
}

func TestTakings(t *testing.T) {
	// Two phases with a Taken change from one to the other and back, and one without a change.
	n := api.Nest{Last: 3, Breed: api.Breed{
		Phases:  []api.Phase{{Least: 1}, {Least: 2}, {Least: 1}},
		Changes: []api.Change{{From: 0, To: 1, Taken: true}, {From: 1, To: 0, Taken: true}, {From: 1, To: 2}},
	}}
	for _, x := range []struct {
		takings []int
		lives   [][]int
	}{
		{nil, [][]int{{0, 0, 0, 0}, {1, 1, 1, 1}, {1, 1, 1, 2}, {1, 1, 2, 2}, {1, 2, 2, 2}, {2, 2, 2, 2}}},
		{[]int{3}, [][]int{{0, 0, 0, 0}, {1, 1, 1, 1}, {1, 1, 1, 2}, {1, 1, 2, 2}, {1, 2, 2, 2}, {2, 2, 2, 2}}},
		{[]int{0}, [][]int{{0, 1, 1, 1}, {0, 1, 1, 2}, {1, 0, 0, 0}}},
		{[]int{0, 1}, [][]int{{1, 0, 1, 1}}},
		{[]int{0, 2}, [][]int{{0, 1, 1, 0}, {1, 0, 0, 1}}},
		{[]int{0, 1, 2}, nil},
		{[]int{2, 0, 3}, [][]int{{0, 1, 1, 0}, {1, 0, 0, 1}}},
	} {
		n.Takings = nil
		for i, day := range x.takings {
			n.Takings = append(n.Takings, api.Taking{ID: i + 1, Day: day})
		}
		if lives := allLives(n); !reflect.DeepEqual(lives, x.lives) {
			t.Fatal("the lives of the oracle:", lives)
		}
		for _, life := range x.lives {
			if day, ok, e := nest.Fits(n, life); e != api.OK || !ok || day != 0 {
				t.Errorf("P4.2: takings %v: %v fits: %v, day %d, error %d", x.takings, life, ok, day, e)
			}
		}
	}
}

// allLists calls a function with all lists of phases for the days of a nest, also with one that is none.
func allLists(n api.Nest, do func(life []int)) {
	life := make([]int, n.Last+1)
	var list func(day int)
	list = func(day int) {
		if day > n.Last {
			do(life)
			return
		}
		for life[day] = range len(n.Breed.Phases) + 1 {
			list(day + 1)
		}
	}
	list(0)
}

func TestFitsOfAllLists(t *testing.T) {
	d := dice(3)
	for range 150 {
		n := d.nest(4)
		found := false
		allLists(n, func(life []int) {
			want := -1
			for day := n.Last; day >= 0; day-- {
				if !isPossible(until(n, day), life[:day+1]) {
					want = day
				}
			}
			day, ok, e := nest.Fits(n, life)
			if e != api.OK || ok != (want < 0) || day != max(want, 0) {
				t.Fatalf("P4.2: %+v: %v: %v, day %d, error %d, want %d", n, life, ok, day, e, want)
			}
			found = found || ok
		})
		life, e := nest.Find(n)
		if !found && (e != api.ErrClash || len(life) > 0) || found && (e != api.OK || !isPossible(n, life)) {
			t.Fatalf("P4.2, P4.9: %+v: %v is found, error %d", n, life, e)
		}
		if all := allLives(n); found != (len(all) > 0) || !slices.EqualFunc(all, possibleLives(n), slices.Equal) {
			t.Fatalf("the oracles: %+v: %v and %v", n, all, possibleLives(n))
		}
	}
}

func TestReach(t *testing.T) {
	n := api.Nest{Last: 3, Breed: api.Breed{
		Phases:  []api.Phase{{Least: 1}, {Eggs: 1, Least: 2, Most: 4}, {Squabs: 1, Least: 3}},
		Changes: []api.Change{{From: 1, To: 2}, {From: 2, To: 0, Taken: true}, {From: 0, To: 1}},
	}}
	n.Peeps = []api.Peep{peep(2, 1, api.NsSquabs, 0, 0), peep(1, 2, api.NsEggs, 1, 1)}
	span := func(lo, hi int) []api.Span { return []api.Span{{Lo: lo, Hi: hi}} }
	all := []api.Stay{{Phase: 0, Ages: span(1, 1)}, {Phase: 1, Ages: span(1, 4)}, {Phase: 2, Ages: span(1, 3)}}
	want := [][]api.Stay{all, all[:2], all[1:2], {{Phase: 1, Ages: span(2, 4)}, {Phase: 2, Ages: span(1, 1)}}}
	if l, e := nest.Reach(n); e != api.OK || !reflect.DeepEqual(l, want) {
		t.Error("P4.3: reach:", l, e)
	}
	n.Takings = []api.Taking{{ID: 3, Day: 0}}
	want = [][]api.Stay{all, all[:1], {{Phase: 1, Ages: span(1, 1)}}, {{Phase: 1, Ages: span(2, 2)}}}
	if l, e := nest.Reach(n); e != api.OK || !reflect.DeepEqual(l, want) {
		t.Error("P4.3: reach behind a taking:", l, e)
	}
	n = gap()
	two := [][]api.Stay{
		{{Phase: 0, Ages: span(1, 5)}},
		{{Phase: 0, Ages: span(2, 5)}, {Phase: 1, Ages: span(1, 1)}},
		{{Phase: 0, Ages: []api.Span{{Lo: 1, Hi: 1}, {Lo: 3, Hi: 5}}}, {Phase: 1, Ages: span(1, 1)}},
	}
	if l, e := nest.Reach(n); e != api.OK || !reflect.DeepEqual(l, two) {
		t.Error("P4.3: reach with two spans:", l, e)
	}
}

// gap returns a nest that is in the phase 0 on the day 0, and two days later at an age of 1, or of 3 at least.
func gap() api.Nest {
	return api.Nest{
		Breed: api.Breed{
			Phases:  []api.Phase{{Least: 1, Most: 5}, {Eggs: 1, Least: 1}},
			Changes: []api.Change{{From: 0, To: 1}, {From: 1, To: 0}},
		},
		Last:  2,
		Peeps: []api.Peep{peep(1, 0, api.NsEggs, 0, 0)},
	}
}

func TestReachOfAllStates(t *testing.T) {
	d := dice(7)
	for range 2000 {
		n := d.nest(9)
		want := reached(n)
		l, e := nest.Reach(n)
		if e != api.OK || len(l) != len(want) {
			t.Fatalf("P4.3: %+v: %v, error %d", n, l, e)
		}
		for day, stays := range l {
			got, ok := standFor(n, stays)
			if !ok || !reflect.DeepEqual(got, want[day]) {
				t.Fatalf("P4.3: %+v: day %d: %v", n, day, stays)
			}
		}
		none := slices.IndexFunc(want, func(m map[state]bool) bool { return len(m) == 0 })
		c, is, e := nest.Contradiction(n)
		if e != api.OK || is != (none >= 0) || !is && len(c) > 0 || is && !refutes(n, c) {
			t.Fatalf("P4.3, P4.9: %+v: contradiction %v, %v, error %d", n, c, is, e)
		}
		life, e := nest.Find(n)
		if is != (e == api.ErrClash) || is != (len(l[n.Last]) == 0) || is && len(life) > 0 || !is && !isPossible(n, life) {
			t.Fatalf("P4.9: %+v: contradiction %v, and %v is found, error %d", n, is, life, e)
		}
		if is {
			fails(t, "P4.9: a contradiction", nest.CheckContradiction(n, c), api.OK)
		} else {
			fails(t, "P4.9: what is reached", nest.CheckContradiction(n, l), api.ErrProof)
		}
	}
}

// bend changes some stays.
func (d *dice) bend(n api.Nest, l [][]api.Stay) [][]api.Stay {
	for range 1 + d.roll(2) {
		day := d.roll(len(l))
		stay := api.Stay{Phase: d.roll(5), Ages: []api.Span{{Lo: 1, Hi: 1 + d.roll(4)}}}
		switch d.roll(7) {
		case 0:
			l = l[:day+1]
		case 1:
			l = append(l, nil)
		case 2:
			l[day] = append(l[day], stay)
		case 3:
			l[day] = append([]api.Stay{stay}, l[day]...)
		case 4:
			if len(l[day]) > 0 {
				l[day] = l[day][1:]
			}
		case 5:
			if len(l[day]) > 0 {
				ages := l[day][d.roll(len(l[day]))].Ages
				ages[d.roll(len(ages))].Lo += d.roll(3) - 1
			}
		case 6:
			if len(l[day]) > 0 {
				x := &l[day][d.roll(len(l[day]))]
				hi := x.Ages[len(x.Ages)-1].Hi
				x.Ages = append(x.Ages, api.Span{Lo: hi + 1 + d.roll(3), Hi: hi + 1 + d.roll(4)})
			}
		}
	}
	return l
}

func TestBentContradictions(t *testing.T) {
	d := dice(13)
	var taken, refused int
	for range 20000 {
		n := d.nest(6)
		l, is, _ := nest.Contradiction(n)
		if !is {
			l, _ = nest.Reach(n)
		}
		l = d.bend(n, l)
		want := api.ErrProof
		if refutes(n, l) {
			want = api.OK
			taken++
		} else {
			refused++
		}
		if e := nest.CheckContradiction(n, l); e != want {
			t.Fatalf("P4.3: %+v: %v: error %d, want %d", n, l, e, want)
		}
		if want == api.OK && !is {
			t.Fatalf("P4.9: %+v: %v is accepted, and a life is possible", n, l)
		}
	}
	if taken < 500 || refused < 500 {
		t.Error("too few stays of a kind:", taken, refused)
	}
}

// clash returns a nest whose first phase is not seen, with all states on the day 0 but these.
func clash() (api.Nest, [][]api.Stay) {
	n := example(0)
	n.Peeps = []api.Peep{peep(1, 0, api.NsEggs, 0, 1), peep(2, 1, api.NsEggs, 9, 9)}
	return n, [][]api.Stay{
		{{Phase: 0, Ages: []api.Span{{Lo: 1, Hi: 2}}}, {Phase: 1, Ages: []api.Span{{Lo: 1, Hi: 2}}}, {Phase: 3, Ages: []api.Span{{Lo: 1, Hi: 6}}}},
		nil,
	}
}

func TestCheckContradiction(t *testing.T) {
	ages := func(l [][]api.Stay, at int, spans ...api.Span) [][]api.Stay {
		l[0][at].Ages = spans
		return l
	}
	for i, x := range []struct {
		change func(l [][]api.Stay) [][]api.Stay
		e      api.Errno
	}{
		{func(l [][]api.Stay) [][]api.Stay { return l }, api.OK},
		{func(l [][]api.Stay) [][]api.Stay { return nil }, api.ErrProof},
		{func(l [][]api.Stay) [][]api.Stay { return l[:1] }, api.ErrProof},
		{func(l [][]api.Stay) [][]api.Stay { return l[1:] }, api.ErrProof},
		{func(l [][]api.Stay) [][]api.Stay { return append(l, nil, nil) }, api.OK},
		{func(l [][]api.Stay) [][]api.Stay { return append(l, make([][]api.Stay, 11)...) }, api.OK},
		{func(l [][]api.Stay) [][]api.Stay { return append(l, make([][]api.Stay, 12)...) }, api.ErrProof},
		{func(l [][]api.Stay) [][]api.Stay { return append(l, make([][]api.Stay, 119)...) }, api.ErrProof},
		{func(l [][]api.Stay) [][]api.Stay { return append(l, make([][]api.Stay, 120)...) }, api.ErrLimit},
		{func(l [][]api.Stay) [][]api.Stay { return append(l, l[0]) }, api.ErrProof},
		{func(l [][]api.Stay) [][]api.Stay { return append(l, l[0], nil) }, api.ErrProof}, // what stands there goes on
		{func(l [][]api.Stay) [][]api.Stay { return append(l, []api.Stay{}) }, api.OK},
		{func(l [][]api.Stay) [][]api.Stay { l[1] = l[0][:1]; return l }, api.ErrProof},
		{func(l [][]api.Stay) [][]api.Stay { l[0] = make([]api.Stay, 8); return l }, api.ErrProof},
		{func(l [][]api.Stay) [][]api.Stay { l[0] = make([]api.Stay, 9); return l }, api.ErrLimit},
		{func(l [][]api.Stay) [][]api.Stay { return append(l, make([]api.Stay, 9)) }, api.ErrLimit},
		{func(l [][]api.Stay) [][]api.Stay { return ages(l, 2, make([]api.Span, 60)...) }, api.ErrProof},
		{func(l [][]api.Stay) [][]api.Stay { return ages(l, 2, make([]api.Span, 61)...) }, api.ErrLimit},
		{func(l [][]api.Stay) [][]api.Stay { return append(ages(l, 0), []api.Stay{{Ages: make([]api.Span, 61)}}) }, api.ErrLimit},
		{func(l [][]api.Stay) [][]api.Stay { l[0][0].Phase = -1; return l }, api.ErrProof},
		{func(l [][]api.Stay) [][]api.Stay { l[0][0].Phase = 1; return l }, api.ErrProof},
		{func(l [][]api.Stay) [][]api.Stay { l[0][2].Phase = 4; return l }, api.ErrProof},
		{func(l [][]api.Stay) [][]api.Stay { l[0][2].Phase = math.MaxInt; return l }, api.ErrProof},
		{func(l [][]api.Stay) [][]api.Stay { slices.Reverse(l[0]); return l }, api.ErrProof},
		{func(l [][]api.Stay) [][]api.Stay {
			l[0] = slices.Insert(l[0], 2, api.Stay{Phase: 2, Ages: []api.Span{{Lo: 2, Hi: 2}}})
			return l
		}, api.OK},
		{func(l [][]api.Stay) [][]api.Stay { l[0] = slices.Insert(l[0], 2, api.Stay{Phase: 2}); return l }, api.ErrProof},
		{func(l [][]api.Stay) [][]api.Stay { return ages(l, 2, api.Span{Lo: 0, Hi: 6}) }, api.ErrProof},
		{func(l [][]api.Stay) [][]api.Stay { return ages(l, 2, api.Span{Lo: 1, Hi: 7}) }, api.ErrProof},
		{func(l [][]api.Stay) [][]api.Stay { return ages(l, 0, api.Span{Lo: 1, Hi: 3}) }, api.ErrProof},
		{func(l [][]api.Stay) [][]api.Stay { return ages(l, 2, api.Span{Lo: 1, Hi: math.MaxInt}) }, api.ErrProof},
		{func(l [][]api.Stay) [][]api.Stay { return ages(l, 2, api.Span{Lo: math.MinInt, Hi: 6}) }, api.ErrProof},
		{func(l [][]api.Stay) [][]api.Stay { return ages(l, 2, api.Span{Lo: 1, Hi: 5}) }, api.ErrProof},
		{func(l [][]api.Stay) [][]api.Stay { return ages(l, 2, api.Span{Lo: 2, Hi: 6}) }, api.ErrProof},
		{func(l [][]api.Stay) [][]api.Stay { return ages(l, 2, api.Span{Lo: 1, Hi: 6}, api.Span{Lo: 4, Hi: 3}) }, api.ErrProof},
		{func(l [][]api.Stay) [][]api.Stay { return ages(l, 2, api.Span{Lo: 1, Hi: 3}, api.Span{Lo: 4, Hi: 6}) }, api.ErrProof},
		{func(l [][]api.Stay) [][]api.Stay { return ages(l, 2, api.Span{Lo: 1, Hi: 4}, api.Span{Lo: 4, Hi: 6}) }, api.ErrProof},
	} {
		n, l := clash()
		if e := nest.CheckContradiction(n, x.change(l)); e != x.e {
			t.Errorf("P4.3: stays %d: error %d, want %d", i, e, x.e)
		}
	}
}

func TestGapsOfAges(t *testing.T) {
	n := gap()
	n.Last = 3
	n.Peeps = append(n.Peeps, peep(2, 3, api.NsEggs, 5, 5))
	for _, x := range []struct {
		ages []api.Span
		e    api.Errno
	}{
		{[]api.Span{{Lo: 1, Hi: 1}, {Lo: 3, Hi: 5}}, api.OK},
		{[]api.Span{{Lo: 1, Hi: 5}}, api.OK},
		{[]api.Span{{Lo: 3, Hi: 5}}, api.ErrProof},
		{[]api.Span{{Lo: 1, Hi: 1}, {Lo: 4, Hi: 5}}, api.ErrProof},
		{[]api.Span{{Lo: 3, Hi: 5}, {Lo: 1, Hi: 1}}, api.ErrProof},
	} {
		l, _ := nest.Reach(n)
		l[2][0].Ages = x.ages
		fails(t, "P4.3: ages of the day 2", nest.CheckContradiction(n, l), x.e)
	}
}

func TestLongestContradiction(t *testing.T) {
	n := example(0)
	n.Last = 120
	n.Peeps = []api.Peep{peep(1, 120, api.NsEggs, 9, 9)}
	l, is, e := nest.Contradiction(n)
	if e != api.OK || !is || len(l) != 121 || len(l[120]) > 0 {
		t.Errorf("P4.3: %d days, %v, error %d", len(l), is, e)
	}
	fails(t, "P4.3: 121 days", nest.CheckContradiction(n, l), api.OK)
	n.Peeps[0].Day = 0
	if l, is, e := nest.Contradiction(n); e != api.OK || !is || len(l) < 1 || len(l[len(l)-1]) > 0 {
		t.Error("P4.3: nothing is seen on the day 0:", l, is, e)
	}
	fails(t, "P4.3: one day", nest.CheckContradiction(n, [][]api.Stay{nil}), api.OK)
}
