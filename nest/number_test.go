package nest_test

import (
	"math"
	"reflect"
	"slices"
	"testing"

	"potence/api"
	"potence/nest"
)

// isShown says whether a number has just what shows its ends.
func isShown(n api.Nest, what, day int, x api.Number) bool {
	if x.Span.Lo < 0 || x.Span.Lo > x.Span.Hi || x.Span.Hi > 9 {
		return false
	}
	attains := func(life []int, number int) bool {
		return len(life) == n.Last+1 && isPossible(n, life) && counted(n.Breed.Phases[life[day]], what) == number
	}
	isNone := func(l [][]api.Stay, lo, hi int) bool {
		if lo > hi {
			return len(l) == 0
		}
		asked := n
		asked.Peeps = append(slices.Clone(n.Peeps), peep(api.MaxID, day, what, lo, hi))
		return refutes(asked, l)
	}
	return attains(x.Low, x.Span.Lo) && attains(x.High, x.Span.Hi) && isNone(x.Below, 0, x.Span.Lo-1) && isNone(x.Above, x.Span.Hi+1, 9)
}

func TestEndsOfAllNests(t *testing.T) {
	d := dice(43)
	for range 2500 {
		n := d.nest(7)
		lives := possibleLives(n)
		if len(lives) == 0 {
			continue
		}
		what, day := d.roll(3), d.roll(n.Last+1)
		x, e := nest.Ends(n, what, day)
		if want := endsOf(n, lives, what, day); e != api.OK || x.Span != want || !isShown(n, what, day, x) {
			t.Fatalf("P4.5, P4.10, T4: %+v: %d on the day %d: %+v, error %d, want %v", n, what, day, x, e, want)
		}
		if x.Span.Lo == 0 && len(x.Below) > 0 || x.Span.Hi == 9 && len(x.Above) > 0 {
			t.Fatalf("P4.5: %+v: more is shown than need be: %+v", n, x)
		}
		fails(t, "P4.5, P4.10: ends", nest.CheckEnds(n, what, day, x), api.OK)
	}
}

func TestEnds(t *testing.T) {
	n := both(3)
	n.Breed.Phases[1].Eggs = 9
	x, e := nest.Ends(n, api.NsEggs, 3)
	if e != api.OK || x.Span != any9 || len(x.Below)+len(x.Above) > 0 || x.Low[3] != 0 || x.High[3] != 1 {
		t.Errorf("P4.5: from nothing to all: %+v, error %d", x, e)
	}
	for _, day := range []int{0, 3} {
		x, e = nest.Ends(n, api.NsOld, day)
		if e != api.OK || x.Span != (api.Span{}) || len(x.Below) > 0 || len(x.Above) == 0 {
			t.Errorf("P4.5: nothing on the day %d: %+v, error %d", day, x, e)
		}
	}
	n.Breed.Phases[0].Old, n.Breed.Phases[1].Old = 9, 9
	x, e = nest.Ends(n, api.NsOld, 2)
	if e != api.OK || x.Span != (api.Span{Lo: 9, Hi: 9}) || len(x.Below) == 0 || len(x.Above) > 0 {
		t.Errorf("P4.5: the most: %+v, error %d", x, e)
	}
	l, is, e := nest.Contradiction(n)
	if e != api.OK || is || len(l) > 0 {
		t.Error("P4.3: no contradiction:", l, is, e)
	}
}

// twist changes what shows the ends of a number.
func (d *dice) twist(n api.Nest, x api.Number, lives [][]int) api.Number {
	for range 1 + d.roll(2) {
		switch d.roll(10) {
		case 0:
			x.Span.Lo += d.roll(3) - 1
		case 1:
			x.Span.Hi += d.roll(3) - 1
		case 2:
			x.Low = lives[d.roll(len(lives))]
		case 3:
			x.High = lives[d.roll(len(lives))]
		case 4:
			x.Below, x.Above = x.Above, x.Below
		case 5:
			x.Below = nil
		case 6:
			x.Above = nil
		case 7:
			x.Below = append(x.Below, nil)
		case 8:
			if len(x.Above) > 0 {
				x.Above = d.bend(n, x.Above)
			}
		case 9:
			x.Low = slices.Clone(x.Low)
			x.Low[d.roll(len(x.Low))] = d.roll(6) - 1
		}
	}
	return x
}

func TestTwistedEnds(t *testing.T) {
	d := dice(47)
	var taken, refused int
	for range 12000 {
		n := d.nest(5)
		lives := possibleLives(n)
		if len(lives) == 0 {
			continue
		}
		what, day := d.roll(3), d.roll(n.Last+1)
		x, e := nest.Ends(n, what, day)
		if e != api.OK {
			t.Fatal("P4.5: error", e)
		}
		span := x.Span
		x = d.twist(n, x, lives)
		want := api.ErrProof
		if isShown(n, what, day, x) {
			want = api.OK
			taken++
		} else {
			refused++
		}
		if e := nest.CheckEnds(n, what, day, x); e != want {
			t.Fatalf("P4.5: %+v: %d on the day %d: %+v: error %d, want %d", n, what, day, x, e, want)
		}
		if want == api.OK && x.Span != span {
			t.Fatalf("P4.10: %+v: %v is accepted, and the ends are %v", n, x.Span, span)
		}
	}
	if taken < 500 || refused < 500 {
		t.Error("too few numbers of a kind:", taken, refused)
	}
}

func TestCheckEnds(t *testing.T) {
	n := example(3)
	for i, x := range []struct {
		change func(x *api.Number)
		e      api.Errno
	}{
		{func(x *api.Number) {}, api.OK},
		{func(x *api.Number) { x.Low, x.High = x.High, x.Low }, api.ErrProof},
		{func(x *api.Number) { x.High = x.Low }, api.ErrProof},
		{func(x *api.Number) { x.Low = x.High }, api.ErrProof},
		{func(x *api.Number) { x.Low = nil }, api.ErrProof},
		{func(x *api.Number) { x.Low = x.Low[:12] }, api.ErrProof},
		{func(x *api.Number) { x.High = append(x.High, 0) }, api.ErrProof},
		{func(x *api.Number) { x.High[12] = 3 }, api.ErrProof},
		{func(x *api.Number) { x.High[4] = 4 }, api.ErrProof},
		{func(x *api.Number) { x.High[4] = math.MinInt }, api.ErrProof},
		{func(x *api.Number) { x.Span.Lo, x.Below = 0, nil }, api.ErrProof},
		{func(x *api.Number) { x.Span.Lo = 2 }, api.ErrProof},
		{func(x *api.Number) { x.Span.Hi = 9 }, api.ErrProof},
		{func(x *api.Number) { x.Span.Hi = 10 }, api.ErrProof},
		{func(x *api.Number) { x.Span.Lo = -1 }, api.ErrProof},
		{func(x *api.Number) { x.Span = api.Span{Lo: 2, Hi: 1} }, api.ErrProof},
		{func(x *api.Number) { x.Span = api.Span{Lo: math.MinInt, Hi: math.MaxInt} }, api.ErrProof},
		{func(x *api.Number) { x.Below = nil }, api.ErrProof},
		{func(x *api.Number) { x.Above = nil }, api.ErrProof},
		{func(x *api.Number) { x.Below = x.Below[:len(x.Below)-1] }, api.ErrProof},
		{func(x *api.Number) { x.Below = append(x.Below, nil) }, api.OK},
		{func(x *api.Number) { x.Below, x.Above = x.Above, x.Below }, api.ErrProof},
		{func(x *api.Number) { x.Below = make([][]api.Stay, 121) }, api.ErrProof},
		{func(x *api.Number) { x.Below = make([][]api.Stay, 122) }, api.ErrLimit},
		{func(x *api.Number) { x.Above = make([][]api.Stay, 122) }, api.ErrLimit},
		{func(x *api.Number) { x.Above[3] = make([]api.Stay, 9) }, api.ErrLimit},
		{func(x *api.Number) { x.Below[0][0].Ages = make([]api.Span, 61) }, api.ErrLimit},
		{func(x *api.Number) { x.Low, x.Span, x.Below[0][0].Ages = nil, api.Span{Lo: -1}, make([]api.Span, 61) }, api.ErrLimit},
		{func(x *api.Number) { *x = api.Number{} }, api.ErrProof},
		{func(x *api.Number) { *x = api.Number{Above: make([][]api.Stay, 122)} }, api.ErrLimit},
	} {
		y, e := nest.Ends(n, api.NsEggs, 4)
		if e != api.OK || y.Span != (api.Span{Lo: 1, Hi: 2}) {
			t.Fatal("P4.5: eggs on the day 4:", y, e)
		}
		x.change(&y)
		if e := nest.CheckEnds(n, api.NsEggs, 4, y); e != x.e {
			t.Errorf("P4.5: number %d: error %d, want %d", i, e, x.e)
		}
	}
	// Where nothing need be shown, nothing may be.
	x, _ := nest.Ends(n, api.NsSquabs, 0)
	if x.Span != (api.Span{}) {
		t.Fatal("P4.5: squabs on the day 0:", x)
	}
	x.Below = [][]api.Stay{nil}
	fails(t, "P4.5: too much is shown", nest.CheckEnds(n, api.NsSquabs, 0, x), api.ErrProof)
	x.Below = make([][]api.Stay, 122)
	fails(t, "P4.5: far too much is shown", nest.CheckEnds(n, api.NsSquabs, 0, x), api.ErrLimit)
	x.Below = [][]api.Stay{}
	fails(t, "P4.5: nothing is shown", nest.CheckEnds(n, api.NsSquabs, 0, x), api.OK)
}

func TestWould(t *testing.T) {
	n := example(3)
	for _, x := range []struct {
		p         api.Peep
		what, day int
		want      api.Span
	}{
		{peep(14, 5, api.NsEggs, 1, 9), api.NsEggs, 4, api.Span{Lo: 1, Hi: 2}},
		{peep(14, 3, api.NsEggs, 1, 1), api.NsEggs, 4, api.Span{Lo: 1, Hi: 2}},
		{peep(14, 4, api.NsEggs, 1, 1), api.NsEggs, 4, api.Span{Lo: 1, Hi: 1}},
		{peep(14, 6, api.NsSquabs, 2, 3), api.NsEggs, 5, api.Span{Lo: 2, Hi: 2}},
		{peep(1, 12, api.NsOld, 0, 9), api.NsOld, 12, api.Span{Lo: 2, Hi: 2}},
		{peep(1, 6, api.NsEggs, 2, 9), api.NsSquabs, 6, api.Span{Lo: 0, Hi: 0}},
	} {
		if s, e := nest.Would(n, x.p, x.what, x.day); e != api.OK || s != x.want {
			t.Errorf("P4.8: %d on the day %d behind %v: %v, error %d, want %v", x.what, x.day, x.p, s, e, x.want)
		}
	}
	many := example(0)
	for i := range 30 {
		many.Peeps = append(many.Peeps, peep(i+1, 0, 0, 0, 9))
	}
	for i, x := range []struct {
		n api.Nest
		p api.Peep
		e api.Errno
	}{
		{n, peep(14, 5, api.NsEggs, 0, 0), api.ErrClash},
		{example(4), peep(20, 0, api.NsEggs, 0, 9), api.ErrClash},
		{example(4), peep(14, 0, api.NsEggs, 0, 9), api.ErrTwice},
		{n, peep(13, 5, api.NsEggs, 0, 0), api.ErrTwice},
		{n, peep(11, 5, api.NsEggs, 0, 0), api.ErrTwice},
		{n, peep(11, 13, api.NsEggs, 0, 0), api.ErrArg},
		{n, peep(0, 5, api.NsEggs, 0, 0), api.ErrArg},
		{n, peep(api.MaxID+1, 5, api.NsEggs, 0, 0), api.ErrArg},
		{n, peep(api.MaxID, 5, api.NsEggs, 0, 0), api.ErrClash},
		{n, peep(14, 5, api.NsEggs, 2, 1), api.ErrArg},
		{n, peep(14, 5, api.NsOld, 0, 10), api.ErrArg},
		{n, api.Peep{}, api.ErrArg},
		{many, peep(31, 0, 0, 0, 9), api.ErrLimit},
		{many, api.Peep{}, api.ErrLimit},
		{drop(many, 30), peep(30, 0, 0, 0, 9), api.OK},
		{changed(func(n *api.Nest) { n.Takings[0].ID = api.MaxID }), peep(1, 0, 0, 0, 9), api.OK},
	} {
		s, e := nest.Would(x.n, x.p, api.NsEggs, 4)
		if e != x.e || e != api.OK && s != (api.Span{}) {
			t.Errorf("P4.8: look %d: %v, error %d, want %d", i, s, e, x.e)
		}
	}
}

func TestFurtherLooks(t *testing.T) {
	d := dice(53)
	for range 2500 {
		n := d.nest(7)
		p := d.peep(n, 99)
		more := n
		more.Peeps = append(slices.Clone(n.Peeps), p)
		what, day := d.roll(3), d.roll(n.Last+1)
		x, e := nest.Ends(n, what, day)
		s, f := nest.Would(n, p, what, day)
		lives := possibleLives(more)
		if len(lives) == 0 {
			if f != api.ErrClash || s != (api.Span{}) {
				t.Fatalf("P4.8: %+v behind %v: %v, error %d", n, p, s, f)
			}
			continue
		}
		if f != api.OK || s != endsOf(more, lives, what, day) {
			t.Fatalf("P4.8: %+v: %d on the day %d behind %v: %v, error %d", n, what, day, p, s, f)
		}
		if e != api.OK || s.Lo < x.Span.Lo || s.Hi > x.Span.Hi {
			t.Fatalf("P4.13: %+v: %v, error %d, and %v behind %v", n, x.Span, e, s, p)
		}
	}
}

func TestContradictionsStay(t *testing.T) {
	d := dice(59)
	found := 0
	for range 1000 {
		n := d.nest(7)
		l, is, _ := nest.Contradiction(n)
		if !is {
			continue
		}
		found++
		n.Peeps = append(n.Peeps, d.peep(n, 99))
		if _, is, e := nest.Contradiction(n); e != api.OK || !is {
			t.Fatalf("P4.13: %+v: %v, error %d", n, is, e)
		}
		fails(t, "P4.13: a contradiction with a further look", nest.CheckContradiction(n, l), api.OK)
	}
	if found < 100 {
		t.Error("too few contradictions:", found)
	}
}

func TestRests(t *testing.T) {
	rests := func(n api.Nest, what, day int, want ...int) {
		t.Helper()
		if l, e := nest.Rests(n, what, day); e != api.OK || !slices.Equal(l, want) {
			t.Errorf("P4.7: %d on the day %d rests on %v, error %d, want %v", what, day, l, e, want)
		}
	}
	rests(example(0), api.NsEggs, 4)
	rests(example(1), api.NsEggs, 3, 11)
	rests(example(3), api.NsSquabs, 12, 13)
	rests(example(3), api.NsOld, 5)
	// Without the taking no life is possible: there are squabs on one day, and none on the next one.
	n := example(0)
	n.Peeps = []api.Peep{peep(8, 6, api.NsSquabs, 0, 0), peep(5, 5, api.NsSquabs, 1, 9)}
	n.Takings = []api.Taking{{ID: 7, Day: 5}}
	rests(n, api.NsOld, 0, 7)
	rests(n, api.NsSquabs, 5, 7)
	n.Takings = append(n.Takings, api.Taking{ID: 6, Day: 12})
	rests(n, api.NsOld, 12, 7)
	// Two looks that tell the same: the number rests on neither alone.
	n = example(1)
	n.Peeps = append(n.Peeps, peep(2, 3, api.NsEggs, 1, 3))
	rests(n, api.NsEggs, 3)
	n.Peeps = append(n.Peeps, peep(1, 3, api.NsEggs, 0, 1))
	rests(n, api.NsEggs, 3, 1)
}

func TestRestsOfAllNests(t *testing.T) {
	d := dice(61)
	some := 0
	for range 1500 {
		n := d.nest(6)
		lives := possibleLives(n)
		if len(lives) == 0 {
			continue
		}
		what, day := d.roll(3), d.roll(n.Last+1)
		span := endsOf(n, lives, what, day)
		var want []int
		_, all := toldIDs(n)
		for _, id := range all {
			less := drop(n, id)
			if others := possibleLives(less); len(others) == 0 || endsOf(less, others, what, day) != span {
				want = append(want, id)
				some++
			}
		}
		if l, e := nest.Rests(n, what, day); e != api.OK || !slices.Equal(l, want) {
			t.Fatalf("P4.7: %+v: %d on the day %d rests on %v, error %d, want %v", n, what, day, l, e, want)
		}
	}
	if some < 100 {
		t.Error("too few numbers that rest on something:", some)
	}
}

func TestSuspects(t *testing.T) {
	for _, x := range []struct {
		n    api.Nest
		want []int
	}{
		{example(0), nil}, {example(3), nil}, {example(4), []int{14}},
		{changed(func(n *api.Nest) { n.Peeps = append(n.Peeps, peep(3, 12, api.NsSquabs, 1, 9)) }), []int{3, 13}},
		{changed(func(n *api.Nest) {
			n.Peeps = append(n.Peeps, peep(3, 12, api.NsSquabs, 1, 9), peep(4, 12, api.NsSquabs, 2, 2))
		}), []int{13}},
		{changed(func(n *api.Nest) {
			n.Peeps = append(n.Peeps, peep(3, 12, api.NsSquabs, 1, 9), peep(4, 0, api.NsEggs, 9, 9))
		}), nil},
	} {
		if l, e := nest.Suspects(x.n); e != api.OK || !slices.Equal(l, x.want) {
			t.Errorf("P4.7: %+v: suspects %v, error %d, want %v", x.n.Peeps, l, e, x.want)
		}
	}
}

func TestCore(t *testing.T) {
	twice := func(ids ...int) api.Nest {
		n := example(0)
		for _, id := range ids {
			n.Peeps = append(n.Peeps, peep(id, 6, api.NsEggs, id%3, id%3))
		}
		return n
	}
	none := example(4)
	none.Takings = append(none.Takings, api.Taking{ID: 20, Day: 10})
	for _, x := range []struct {
		n    api.Nest
		want []int
		e    api.Errno
	}{
		{example(0), nil, api.OK}, {example(3), nil, api.OK}, {example(4), []int{14}, api.OK},
		{twice(3, 4), []int{3, 4}, api.OK},
		{twice(4, 3), []int{3, 4}, api.OK},
		{twice(3, 4, 5), []int{4, 5}, api.OK},
		{twice(5, 4, 3), []int{4, 5}, api.OK},
		{twice(3, 4, 6), []int{4, 6}, api.OK},
		{twice(3, 7, 4), []int{3, 7}, api.OK},
		{twice(8, 7, 1, 2), []int{7, 8}, api.OK},
		{none, nil, api.ErrNone},
		{drop(none, 11, 12, 14), nil, api.ErrNone},
		{drop(none, 20, 13), []int{12, 14}, api.OK},
	} {
		if l, e := nest.Core(x.n); e != x.e || !slices.Equal(l, x.want) {
			t.Errorf("P4.7: %+v: core %v, error %d, want %v", x.n.Peeps, l, e, x.want)
		}
	}
}

// coreOf returns the core of looks that contradict each other.
func coreOf(n api.Nest) []int {
	looks, _ := toldIDs(n)
	var core []int
	for _, id := range looks {
		if less := drop(n, id); len(possibleLives(less)) == 0 {
			n = less
		} else {
			core = append(core, id)
		}
	}
	return core
}

func TestCoresOfAllNests(t *testing.T) {
	d := dice(67)
	var cores, nones int
	for range 1500 {
		n := d.nest(5)
		if len(possibleLives(n)) > 0 {
			failsAt(t, "P4.7", "a nest with a life", named(calls(0), "Suspects")[0], n, api.OK)
			failsAt(t, "P4.7", "a nest with a life", named(calls(0), "Core")[0], n, api.OK)
			continue
		}
		looks, all := toldIDs(n)
		suspects, e := nest.Suspects(n)
		want := slices.DeleteFunc(all, func(id int) bool { return len(possibleLives(drop(n, id))) == 0 })
		if e != api.OK || !slices.Equal(suspects, want) {
			t.Fatalf("P4.7: %+v: suspects %v, error %d, want %v", n, suspects, e, want)
		}
		if len(possibleLives(drop(n, looks...))) == 0 {
			nones++
			failsAt(t, "P4.7", "takings without a life", named(calls(0), "Core")[0], n, api.ErrNone)
			continue
		}
		cores++
		core, e := nest.Core(n)
		if e != api.OK || !slices.Equal(core, coreOf(n)) {
			t.Fatalf("P4.7: %+v: core %v, error %d", n, core, e)
		}
		checkCore(t, n, core, suspects)
	}
	if cores < 100 || nones < 100 {
		t.Error("too few contradictions of a kind:", cores, nones)
	}
}

// checkCore checks what has to be so of a core.
func checkCore(t *testing.T, n api.Nest, core, suspects []int) {
	t.Helper()
	looks, _ := toldIDs(n)
	others := slices.DeleteFunc(slices.Clone(looks), func(id int) bool { return slices.Contains(core, id) })
	if len(possibleLives(drop(n, others...))) > 0 {
		t.Fatalf("P4.14: %+v: the core %v does not contradict itself", n, core)
	}
	for _, id := range core {
		if len(possibleLives(drop(n, append(others, id)...))) == 0 {
			t.Fatalf("P4.14: %+v: the core %v contradicts itself without %d", n, core, id)
		}
	}
	for _, id := range suspects {
		if slices.Contains(looks, id) && !slices.Contains(core, id) {
			t.Fatalf("P4.14: %+v: the core %v has no %d", n, core, id)
		}
	}
}

func TestOrderOfWhatIsTold(t *testing.T) {
	d := dice(71)
	for range 300 {
		n := d.nest(6)
		other := copyOf(n)
		slices.Reverse(other.Peeps)
		slices.Reverse(other.Takings)
		for _, c := range named(calls(0), "Reach", "Phases", "Days", "First", "Rests", "Suspects", "Core") {
			x, e := c.do(n)
			y, f := c.do(other)
			if e != f || !reflect.DeepEqual(x, y) {
				t.Fatalf("P4.3 to P4.7: %s of %+v: %v, error %d, and %v, error %d with the looks and takings the other way round", c.name, n, x, e, y, f)
			}
		}
	}
}
