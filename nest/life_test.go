package nest_test

import (
	"reflect"
	"slices"
	"testing"

	"potence/api"
	"potence/nest"
)

// phasesOf returns the phases in which some lives are on a day, in increasing order.
func phasesOf(lives [][]int, day int) []int {
	all := each(lives, func(life []int) int { return life[day] })
	slices.Sort(all)
	return slices.Compact(all)
}

// firstsOf returns the first days on which some lives are in a phase, and whether all ever are.
func firstsOf(lives [][]int, phase int) ([]int, bool) {
	firsts := each(lives, func(life []int) int { return slices.Index(life, phase) })
	ever := slices.DeleteFunc(slices.Clone(firsts), func(day int) bool { return day < 0 })
	return ever, len(ever) == len(lives)
}

func TestExamplesOfLives(t *testing.T) {
	if l, e := nest.Phases(example(1), 3); e != api.OK || !slices.Equal(l, []int{1, 2}) {
		t.Error("P4.4: phases of the day 3:", l, e)
	}
	if x, e := nest.Ends(example(2), api.NsEggs, 4); e != api.OK || x.Span != (api.Span{Lo: 1, Hi: 2}) {
		t.Error("P4.5: eggs on the day 4:", x, e)
	}
	first := func(n api.Nest, phase int, want api.Span, all bool) {
		t.Helper()
		if s, ok, e := nest.First(n, phase); e != api.OK || ok != all || s != want {
			t.Errorf("P4.6: first of the phase %d: %v, %v, error %d", phase, s, ok, e)
		}
	}
	first(example(2), 3, api.Span{Lo: 7, Hi: 9}, true)
	first(example(3), 3, api.Span{Lo: 6, Hi: 8}, true)
	first(example(3), 0, api.Span{Lo: 0, Hi: 12}, true)
	first(example(3), 1, api.Span{Lo: 0, Hi: 3}, true)
	first(example(0), 0, api.Span{Lo: 0, Hi: 0}, true)
	first(example(0), 3, api.Span{Lo: 7, Hi: 12}, false)
	for _, x := range []struct {
		day    int
		lo, hi int
	}{{11, 2, 2}, {12, 0, 0}} {
		if y, e := nest.Ends(example(3), api.NsSquabs, x.day); e != api.OK || y.Span != (api.Span{Lo: x.lo, Hi: x.hi}) {
			t.Errorf("P4.5: squabs on the day %d: %v, error %d", x.day, y, e)
		}
	}
	for _, change := range []int{2, 3} {
		s, low, high, e := nest.Times(example(3), change)
		if e != api.OK || s != (api.Span{Lo: 1, Hi: 1}) || !isPossible(example(3), low) || !isPossible(example(3), high) {
			t.Errorf("P4.6: the change %d happens %v times: %v and %v, error %d", change, s, low, high, e)
		}
	}
	sure, possible, e := nest.Days(example(3), 3)
	if e != api.OK || !slices.Equal(sure, []api.Span{{Lo: 8, Hi: 11}}) || !slices.Equal(possible, []api.Span{{Lo: 6, Hi: 11}}) {
		t.Error("P4.4: days of the phase 3:", sure, possible, e)
	}
	if _, is, e := nest.Contradiction(example(4)); e != api.OK || !is {
		t.Error("P4.3: a contradiction:", is, e)
	}
	if l, e := nest.Suspects(example(4)); e != api.OK || !slices.Equal(l, []int{14}) {
		t.Error("P4.7: suspects:", l, e)
	}
	if l, e := nest.Core(example(4)); e != api.OK || !slices.Equal(l, []int{14}) {
		t.Error("P4.7: core:", l, e)
	}
}

// both returns a nest with two phases that can change to each other each day.
func both(last int) api.Nest {
	return api.Nest{Last: last, Breed: api.Breed{
		Phases:  []api.Phase{{Least: 1}, {Eggs: 1, Least: 1, Most: 60}},
		Changes: []api.Change{{From: 1, To: 0}, {From: 0, To: 1}},
	}}
}

func TestDays(t *testing.T) {
	// The phase 0 is seen on the days 1, 2 and 4, and on the last one.
	n := both(6)
	for i, day := range []int{4, 1, 2, 6} {
		n.Peeps = append(n.Peeps, peep(i+1, day, api.NsEggs, 0, 0))
	}
	sure, possible, e := nest.Days(n, 0)
	if e != api.OK || !slices.Equal(sure, []api.Span{{Lo: 1, Hi: 2}, {Lo: 4, Hi: 4}, {Lo: 6, Hi: 6}}) || !slices.Equal(possible, []api.Span{{Lo: 0, Hi: 6}}) {
		t.Error("P4.4: days of the phase 0:", sure, possible, e)
	}
	sure, possible, e = nest.Days(n, 1)
	if e != api.OK || len(sure) > 0 || !slices.Equal(possible, []api.Span{{Lo: 0, Hi: 0}, {Lo: 3, Hi: 3}, {Lo: 5, Hi: 5}}) {
		t.Error("P4.4: days of the phase 1:", sure, possible, e)
	}
	n.Breed.Changes = nil
	sure, possible, e = nest.Days(n, 1)
	if e != api.OK || len(sure)+len(possible) > 0 {
		t.Error("P4.4: days of a phase that never is:", sure, possible, e)
	}
	if s, all, e := nest.First(n, 1); e != api.OK || s != (api.Span{}) || all {
		t.Error("P4.6: first day of a phase that never is:", s, all, e)
	}
	if s, all, e := nest.First(n, 0); e != api.OK || s != (api.Span{}) || !all {
		t.Error("P4.6: first day of a phase that always is:", s, all, e)
	}
}

func TestTimes(t *testing.T) {
	for _, x := range []struct {
		last   int
		change int
		want   api.Span
	}{{0, 0, api.Span{}}, {1, 1, api.Span{Hi: 1}}, {2, 0, api.Span{Hi: 1}}, {3, 0, api.Span{Hi: 2}}, {120, 0, api.Span{Hi: 60}}, {119, 1, api.Span{Hi: 60}}} {
		n := both(x.last)
		s, low, high, e := nest.Times(n, x.change)
		if e != api.OK || s != x.want || !isPossible(n, low) || !isPossible(n, high) {
			t.Fatalf("P4.6: times of %d in %d days: %v, error %d", x.change, x.last, s, e)
		}
		c := n.Breed.Changes[x.change]
		if times(c, low) != s.Lo || times(c, high) != s.Hi {
			t.Errorf("P4.6: %v happens %v times, in %v and %v", c, s, low, high)
		}
	}
	// The phases can last for 60 days each, so that both changes happen in 121 days.
	n := both(120)
	n.Breed.Phases[0].Most = 60
	s, _, _, e := nest.Times(n, 0)
	if e != api.OK || s != (api.Span{Lo: 1, Hi: 60}) {
		t.Error("P4.6: times of 121 days:", s, e)
	}
	n.Breed.Phases[0].Most = 0
	n.Peeps = []api.Peep{peep(1, 0, api.NsEggs, 1, 1), peep(2, 120, api.NsEggs, 1, 1)}
	s, low, high, e := nest.Times(n, 0)
	if e != api.OK || s != (api.Span{Lo: 1, Hi: 60}) || times(n.Breed.Changes[0], low) != 1 || times(n.Breed.Changes[0], high) != 60 {
		t.Error("P4.6: times of 121 days that begin and end with an egg:", s, e)
	}
}

// checkPhases checks what is told of phases by all possible lives.
func checkPhases(t *testing.T, n api.Nest, lives [][]int) {
	t.Helper()
	for day := range n.Last + 1 {
		l, e := nest.Phases(n, day)
		if e != api.OK || !slices.Equal(l, phasesOf(lives, day)) {
			t.Fatalf("P4.4, P4.11: %+v: phases of the day %d: %v, error %d", n, day, l, e)
		}
	}
	for phase := range n.Breed.Phases {
		sure, possible, e := nest.Days(n, phase)
		isSure, ok := days(sure)
		isPossible, right := days(possible)
		if e != api.OK || !ok || !right {
			t.Fatalf("P4.4: %+v: days of the phase %d: %v and %v, error %d", n, phase, sure, possible, e)
		}
		for day := range n.Last + 1 {
			some := phasesOf(lives, day)
			if isPossible[day] != slices.Contains(some, phase) || isSure[day] != slices.Equal(some, []int{phase}) {
				t.Fatalf("P4.4, P4.11: %+v: days of the phase %d: %v and %v", n, phase, sure, possible)
			}
		}
		if len(isPossible) > n.Last+1 {
			t.Fatalf("P4.4: %+v: days of the phase %d: %v", n, phase, possible)
		}
	}
}

// checkTimes checks what is told of changes and first days by all possible lives.
func checkTimes(t *testing.T, n api.Nest, lives [][]int) {
	t.Helper()
	for i, c := range n.Breed.Changes {
		s, low, high, e := nest.Times(n, i)
		want := within(each(lives, func(life []int) int { return times(c, life) }))
		if e != api.OK || s != want || !isPossible(n, low) || !isPossible(n, high) || times(c, low) != s.Lo || times(c, high) != s.Hi {
			t.Fatalf("P4.6, P4.12: %+v: times of %v: %v, %v and %v, error %d, want %v", n, c, s, low, high, e, want)
		}
	}
	for phase := range n.Breed.Phases {
		s, all, e := nest.First(n, phase)
		firsts, always := firstsOf(lives, phase)
		var want api.Span
		if len(firsts) > 0 {
			want = within(firsts)
		}
		if e != api.OK || s != want || all != always {
			t.Fatalf("P4.6, P4.11: %+v: first of the phase %d: %v, %v, error %d, want %v, %v", n, phase, s, all, e, want, always)
		}
	}
}

func TestLivesOfAllNests(t *testing.T) {
	d := dice(19)
	possible, impossible := 0, 0
	for range 2500 {
		n := d.nest(7)
		lives := possibleLives(n)
		if len(lives) == 0 {
			impossible++
			for _, c := range named(calls(0), "Find", "Phases", "Days", "Ends", "CheckEnds", "First", "Rests", "Would") {
				failsAt(t, "P4.2 to P4.9", "a nest without a life", c, n, api.ErrClash)
			}
			if len(n.Breed.Changes) > 0 {
				failsAt(t, "P4.6", "a nest without a life", named(calls(0), "Times")[0], n, api.ErrClash)
			}
			continue
		}
		possible++
		checkPhases(t, n, lives)
		checkTimes(t, n, lives)
	}
	if possible < 500 || impossible < 500 {
		t.Error("too few nests of a kind:", possible, impossible)
	}
}

func TestChangesToAndFrom(t *testing.T) {
	// The changes that lead to a phase, and those that lead from it, but for the first and the last run.
	d := dice(37)
	for range 500 {
		n := d.nest(9)
		life, e := nest.Find(n)
		if e != api.OK {
			continue
		}
		for phase := range n.Breed.Phases {
			to, from := 0, 0
			for i, c := range n.Breed.Changes {
				s, _, _, _ := nest.Times(n, i)
				count := times(c, life)
				if count < s.Lo || count > s.Hi {
					t.Fatalf("P4.12: %+v: %v happens %d times in %v, and %v is told", n, c, count, life, s)
				}
				if c.To == phase {
					to += count
				}
				if c.From == phase {
					from += count
				}
			}
			if life[0] == phase {
				to++
			}
			if life[n.Last] == phase {
				from++
			}
			if to != from {
				t.Fatalf("P4.12: %+v: %v: %d changes lead to %d, %d from it", n, life, to, phase, from)
			}
		}
	}
}

// lived returns a nest whose looks and takings are true of a life, and the life.
func (d *dice) lived(last int) (api.Nest, []int) {
	n := api.Nest{Breed: d.breed(), Last: last}
	life := []int{d.roll(len(n.Breed.Phases))}
	age := 1 + d.roll(ripe(n.Breed.Phases[life[0]]))
	for day := range last {
		now := n.Breed.Phases[life[day]]
		var ways []api.Change
		for _, c := range n.Breed.Changes {
			if c.From == life[day] && age >= now.Least && (!c.Taken || len(n.Takings) < 12) {
				ways = append(ways, c)
			}
		}
		stays := now.Most == 0 || age < now.Most
		if !stays && len(ways) == 0 {
			n.Last = day
			break
		}
		if stays && (len(ways) == 0 || d.roll(3) > 0) {
			life = append(life, life[day])
			age++
			continue
		}
		c := ways[d.roll(len(ways))]
		life = append(life, c.To)
		age = 1
		if c.Taken {
			n.Takings = append(n.Takings, api.Taking{ID: 100 + day, Day: day})
		}
	}
	for i := range d.roll(12) {
		p := api.Peep{ID: i + 1, Day: d.roll(n.Last + 1)}
		for what := range p.Numbers {
			p.Numbers[what] = d.span(counted(n.Breed.Phases[life[p.Day]], what))
		}
		n.Peeps = append(n.Peeps, p)
	}
	return n, life
}

func TestTrueLives(t *testing.T) {
	d := dice(41)
	for range 200 {
		n, life := d.lived(40)
		if day, ok, e := nest.Fits(n, life); e != api.OK || !ok {
			t.Fatalf("P4.15: %+v: %v does not fit on the day %d, error %d", n, life, day, e)
		}
		if l, is, e := nest.Contradiction(n); e != api.OK || is || len(l) > 0 {
			t.Fatalf("P4.15: %+v: %v contradicts %v, error %d", n, l, life, e)
		}
		reach, e := nest.Reach(n)
		for day, phase := range life {
			isThere := slices.ContainsFunc(reach[day], func(x api.Stay) bool { return x.Phase == phase })
			if l, f := nest.Phases(n, day); e != api.OK || !isThere || f != api.OK || !slices.Contains(l, phase) {
				t.Fatalf("P4.15: %+v: %v on the day %d is %v of %v, errors %d and %d", n, life, day, phase, l, e, f)
			}
		}
		for range 5 {
			what, day := d.roll(3), d.roll(n.Last+1)
			x, e := nest.Ends(n, what, day)
			if count := counted(n.Breed.Phases[life[day]], what); e != api.OK || count < x.Span.Lo || count > x.Span.Hi {
				t.Fatalf("P4.15, P4.10: %+v: %v: %d of %d on the day %d, error %d, and %v is told", n, life, count, what, day, e, x.Span)
			}
		}
		for i, c := range n.Breed.Changes {
			if s, _, _, e := nest.Times(n, i); e != api.OK || times(c, life) < s.Lo || times(c, life) > s.Hi {
				t.Fatalf("P4.15: %+v: %v: times of %v: %v, error %d", n, life, c, s, e)
			}
		}
		checkTrueDays(t, n, life)
	}
}

// checkTrueDays checks that days and first days hold of a life.
func checkTrueDays(t *testing.T, n api.Nest, life []int) {
	t.Helper()
	for phase := range n.Breed.Phases {
		sure, possible, e := nest.Days(n, phase)
		isSure, _ := days(sure)
		isPossible, _ := days(possible)
		for day, p := range life {
			if e != api.OK || p == phase && !isPossible[day] || p != phase && isSure[day] {
				t.Fatalf("P4.15: %+v: %v: days of the phase %d: %v and %v, error %d", n, life, phase, sure, possible, e)
			}
		}
		s, all, e := nest.First(n, phase)
		day := slices.Index(life, phase)
		if e != api.OK || day < 0 && all || day >= 0 && (day < s.Lo || day > s.Hi) {
			t.Fatalf("P4.15: %+v: %v: first of the phase %d: %v, %v, error %d", n, life, phase, s, all, e)
		}
	}
}

// largest returns a nest with as many states, changes and days as there may be, in which a life is possible.
func largest() api.Nest {
	n := api.Nest{Last: 120}
	for i := range 8 {
		n.Breed.Phases = append(n.Breed.Phases, api.Phase{Eggs: i, Squabs: 9 - i, Old: 9, Least: 1, Most: 60})
	}
	for to := range 8 {
		for from := range 8 {
			if (from+to)%2 == 1 && len(n.Breed.Changes) < 20 {
				n.Breed.Changes = append(n.Breed.Changes, api.Change{From: from, To: to})
			}
		}
	}
	for i := range 29 {
		n.Peeps = append(n.Peeps, peep(i+1, 4*i, i%3, 0, 9))
	}
	return n
}

func TestLargestNest(t *testing.T) {
	n := largest()
	life, e := nest.Find(n)
	if e != api.OK || !isPossible(n, life) {
		t.Error("P4.2, R1: a life:", life, e)
	}
	s, low, high, e := nest.Times(n, 0)
	if c := n.Breed.Changes[0]; e != api.OK || s.Lo != 0 || s.Hi < 1 || times(c, low) != s.Lo || times(c, high) != s.Hi {
		t.Error("P4.6, R1: times:", s, e)
	}
	x, e := nest.Ends(n, api.NsEggs, 60)
	if e != api.OK {
		t.Error("P4.5, R1: ends:", x, e)
	}
	fails(t, "P4.5, R1: the ends of the largest nest", nest.CheckEnds(n, api.NsEggs, 60, x), api.OK)
	reach, e := nest.Reach(n)
	if e != api.OK || !reflect.DeepEqual(reach[0][7].Ages, []api.Span{{Lo: 1, Hi: 60}}) {
		t.Error("P4.3, R1: reach:", e)
	}
	if l, e := nest.Rests(n, api.NsEggs, 60); e != api.OK || len(l) > 0 {
		t.Error("P4.7, R1: looks that tell nothing:", l, e)
	}
}
