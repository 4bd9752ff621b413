package stick_test

import (
	"math/bits"
	"slices"
	"testing"

	"potence/api"
	"potence/stick"
)

func TestExamples(t *testing.T) {
	s := example()
	x, e := stick.Find(s)
	same(t, "P9.2: Find", x, e, bools("11001")...)
	n, e := stick.Free(s)
	is(t, "P9.2: Free", n, e, 1)
	sure, e := stick.Sure(s)
	same(t, "P9.2: Sure", sure, e, []api.Notch{{Place: 0, Notched: true}, {Place: 1, Notched: true}}...)
	ids, notched, e := stick.Shows(s, 1)
	if same(t, "P9.3: Shows of 1", ids, e, 1, 2); !notched {
		t.Error("P9.3: 1 is notched")
	}
	for p := 2; p < 5; p++ {
		for _, c := range named(input{place: p}, "Shows") {
			failsAt(t, "P9.3, R4", "what is not sure", c, s, api.ErrNone)
		}
	}
	for _, x := range []struct {
		places    []int
		told, odd bool
	}{{[]int{2, 3}, true, false}, {[]int{2, 4}, true, true}, {[]int{2}, false, false}, {nil, true, false}, {[]int{0}, true, true}, {[]int{0, 1, 3, 4}, true, true}, {upTo(5), false, false}} {
		told, odd, e := stick.Tells(s, x.places)
		if told != x.told || odd != x.odd || e != api.OK {
			t.Errorf("P9.4: Tells of %v: %v, %v, error %d", x.places, told, odd, e)
		}
	}
	l, e := stick.Ask(s)
	same(t, "P9.7: Ask", l, e, 2)
	l, e = stick.Idle(s)
	same(t, "P9.7: Idle", l, e)
	x, n, e = stick.Nearest(s, bools("00110"))
	if same(t, "P9.8: Nearest", x, e, bools("11110")...); n != 2 {
		t.Error("P9.8: Nearest is 2 places apart:", n)
	}
}

func TestSticksWithoutNotes(t *testing.T) {
	for places := 1; places <= 48; places++ {
		s := single(places, 0)
		x, e := stick.Find(s)
		same(t, "P9.2: Find", x, e, make([]bool, places)...)
		n, e := stick.Free(s)
		is(t, "P9.2: Free", n, e, places)
		sure, e := stick.Sure(s)
		same(t, "P9.2: Sure", sure, e)
		l, e := stick.Ask(s)
		same(t, "P9.7: Ask", l, e, upTo(places)...)
		told, odd, e := stick.Tells(s, nil)
		if !told || odd || e != api.OK {
			t.Error("P9.4: Tells of no places:", told, odd, e)
		}
	}
}

func TestSingleNotches(t *testing.T) {
	for notes := range 49 {
		s := single(48, notes)
		want := make([]bool, 48)
		var sure []api.Notch
		for p := range notes {
			want[p] = p%3 == 0
			sure = append(sure, api.Notch{Place: p, Notched: p%3 == 0})
		}
		x, e := stick.Find(s)
		same(t, "P9.2: Find", x, e, want...)
		n, e := stick.Free(s)
		is(t, "P9.2: Free", n, e, 48-notes)
		l, e := stick.Sure(s)
		same(t, "P9.2: Sure", l, e, sure...)
		ask, e := stick.Ask(s)
		same(t, "P9.7: Ask", ask, e, upTo(48)[notes:]...)
		x, n, e = stick.Nearest(s, make([]bool, 48))
		if notes < 36 {
			if fails(t, "P9.8: too many free places", e, api.ErrLimit); len(x) > 0 || n != 0 {
				t.Error("R4: Nearest:", x, n)
			}
		} else if same(t, "P9.8: Nearest", x, e, want...); n != (notes+2)/3 {
			t.Error("P9.8: Nearest of none:", n)
		}
	}
}

// checkShows holds Shows and CheckShows of a place against what is so in all notches that fit.
func checkShows(t *testing.T, s api.Stick, place int, sure, notched bool) {
	t.Helper()
	ids, told, e := stick.Shows(s, place)
	if !sure {
		if fails(t, "P9.3, P9.13: Shows of what is not sure", e, api.ErrNone); len(ids) > 0 || told {
			t.Error("R4: Shows:", ids, told)
		}
		return
	}
	if e != api.OK || told != notched || !slices.IsSorted(ids) || !shows(s, place, notched, ids) {
		t.Errorf("P9.3: Shows of %d: %v, %v, error %d, want %v", place, ids, told, e, notched)
	}
	fails(t, "P9.13: CheckShows of Shows", stick.CheckShows(s, place, told, ids), api.OK)
	fails(t, "P9.13: CheckShows of the opposite", stick.CheckShows(s, place, !told, ids), api.ErrProof)
}

// alike says whether it is the same in all of some notches whether an odd number of places is notched, and whether it is odd.
func alike(all [][]bool, places []int) (bool, bool) {
	odd := isOdd(all[0], places)
	if slices.ContainsFunc(all, func(x []bool) bool { return isOdd(x, places) != odd }) {
		return false, false
	}
	return true, odd
}

// tellsAll says whether notches that fit differ if some places of them do.
func tellsAll(all [][]bool, places []int) bool {
	seen := map[string]bool{}
	for _, x := range all {
		key := ""
		for _, p := range places {
			key += map[bool]string{true: "1", false: "0"}[x[p]]
		}
		if seen[key] {
			return false
		}
		seen[key] = true
	}
	return true
}

// checkSure holds what is told of a stick against all notches that fit.
func checkSure(t *testing.T, s api.Stick, all [][]bool) {
	t.Helper()
	x, e := stick.Find(s)
	same(t, "P9.2: Find", x, e, all[0]...)
	n, e := stick.Free(s)
	is(t, "P9.2: Free", n, e, bits.Len(uint(len(all)))-1)
	var sure []api.Notch
	for p := range s.Places {
		is, notched := alike(all, []int{p})
		if is {
			sure = append(sure, api.Notch{Place: p, Notched: notched})
		}
		checkShows(t, s, p, is, notched)
	}
	l, e := stick.Sure(s)
	same(t, "T9, P9.2, P9.15: Sure", l, e, sure...)
	for _, places := range subsets(upTo(s.Places)) {
		told, odd, e := stick.Tells(s, places)
		if is, isOdd := alike(all, places); told != is || odd != isOdd || e != api.OK {
			t.Errorf("P9.4: Tells of %v: %v, %v, error %d", places, told, odd, e)
		}
	}
	sets := subsets(upTo(s.Places))
	at := slices.IndexFunc(sets, func(places []int) bool { return tellsAll(all, places) })
	ask, e := stick.Ask(s)
	same(t, "P9.7: Ask", ask, e, sets[at]...)
}

// checkNearest holds Nearest of all notches against all that fit.
func checkNearest(t *testing.T, s api.Stick, all [][]bool) {
	t.Helper()
	for _, x := range allNotches(s.Places) {
		want := slices.MinFunc(all, func(a, b []bool) int { return apart(a, x) - apart(b, x) })
		near, n, e := stick.Nearest(s, x)
		same(t, "P9.8: Nearest", near, e, want...)
		is(t, "P9.8: how far apart it is", n, e, apart(want, x))
	}
}

func TestSureOfAllSticks(t *testing.T) {
	d := dice(3)
	free := map[int]int{}
	for range 1500 {
		s := d.rolled(6, 7, 0)
		all := fitting(s)
		checkSure(t, s, all)
		checkNearest(t, s, all)
		if t.Failed() {
			t.Fatal("the stick", s)
		}
		free[len(all)]++
	}
	for n := range 7 {
		if free[1<<n] < 20 {
			t.Error("the sticks are too much alike:", free)
		}
	}
}

func TestErrorsOfAllSticks(t *testing.T) {
	d := dice(4)
	clashes := 0
	for range 1000 {
		s := d.rolled(6, 8, 4)
		if len(fitting(s)) > 0 {
			continue
		}
		clashes++
		for _, c := range named(input{place: 0, notched: make([]bool, s.Places)}, "Find", "Free", "Sure", "Shows", "Tells", "Idle", "Ask", "Nearest") {
			if failsAt(t, "R3, R4", "notes that do not agree", c, s, api.ErrClash); t.Failed() {
				t.Fatal("the stick", s)
			}
		}
	}
	if clashes < 150 {
		t.Error("too few sticks whose notes do not agree:", clashes)
	}
}

// checkShownNotes holds CheckShows of all lists of notes against their sums; and all that is accepted against all notches that fit, if some do.
func checkShownNotes(t *testing.T, s api.Stick) int {
	t.Helper()
	all, accepted := fitting(s), 0
	for _, ids := range subsets(idsOf(s)) {
		for p := range s.Places {
			for _, notched := range []bool{false, true} {
				want := api.ErrProof
				if shows(s, p, notched, ids) {
					accepted++
					want = api.OK
				}
				fails(t, "P9.3: CheckShows", stick.CheckShows(s, p, notched, ids), want)
				if want == api.OK && slices.ContainsFunc(all, func(x []bool) bool { return x[p] != notched }) {
					t.Error("P9.13: what is accepted is not sure:", ids, p, notched)
				}
			}
		}
	}
	return accepted
}

func TestAllShownNotes(t *testing.T) {
	d := dice(5)
	accepted := 0
	for range 400 {
		s := d.rolled(5, 7, 2)
		if accepted += checkShownNotes(t, s); t.Failed() {
			t.Fatal("the stick", s)
		}
	}
	if accepted < 2000 {
		t.Error("too few notes are accepted:", accepted)
	}
}

func TestCheckShows(t *testing.T) {
	for _, x := range []struct {
		place   int
		notched bool
		ids     []int
		e       api.Errno
	}{
		{0, true, []int{1}, api.OK}, {0, false, []int{1}, api.ErrProof}, {1, true, []int{1}, api.ErrProof}, {1, true, []int{1, 2}, api.OK},
		{1, false, []int{1, 5}, api.OK}, {1, true, []int{1, 5}, api.ErrProof}, {0, true, []int{1, 2, 5}, api.ErrProof}, {0, false, []int{1, 2, 5}, api.OK},
		{0, true, nil, api.ErrProof}, {0, false, []int{}, api.ErrProof}, {2, true, []int{3, 4}, api.ErrProof}, {0, true, []int{2}, api.ErrProof},
	} {
		if e := stick.CheckShows(broken(), x.place, x.notched, x.ids); e != x.e {
			t.Errorf("P9.3: CheckShows of %v: error %d", x, e)
		}
	}
}

// manyOf returns a stick with many places, and notes that are true of the notches that it returns.
func (d *dice) manyOf() (api.Stick, []bool) {
	x := d.notched(20 + d.roll(29))
	return d.truly(x, d.roll(61), 2+d.roll(20)), x
}

// checkGreat holds what is told of a stick of any size against what can be.
func checkGreat(t *testing.T, s api.Stick) {
	t.Helper()
	want := firstFitting(s)
	x, e := stick.Find(s)
	same(t, "P9.2: Find", x, e, want...)
	var sure []api.Notch
	for p := range s.Places {
		if isTold(s, p) {
			sure = append(sure, api.Notch{Place: p, Notched: want[p]})
		}
		checkShows(t, s, p, isTold(s, p), want[p])
	}
	l, e := stick.Sure(s)
	same(t, "P9.2: Sure", l, e, sure...)
	var places []int // the first ones that tell all: each one that is not told by those before it
	known := s
	for p := range s.Places {
		if !isTold(known, p) {
			places = append(places, p)
			known = more(known, note(0, true, p))
		}
	}
	ask, e := stick.Ask(s)
	same(t, "P9.7: Ask", ask, e, places...)
	n, e := stick.Free(s)
	is(t, "P9.2, P9.17: Free", n, e, len(places))
	var idle []int
	for _, n := range s.Notes {
		if isTold(lacking(s, n.ID), n.Places...) {
			idle = append(idle, n.ID)
		}
	}
	slices.Sort(idle)
	ids, e := stick.Idle(s)
	same(t, "P9.7: Idle", ids, e, idle...)
}

func TestGreatSticks(t *testing.T) {
	d := dice(6)
	checkGreat(t, great())
	checkGreat(t, single(48, 30))
	for range 60 {
		s, truly := d.manyOf()
		if checkGreat(t, s); t.Failed() {
			t.Fatal("the stick", s)
		}
		sure, _ := stick.Sure(s)
		for _, n := range sure {
			if truly[n.Place] != n.Notched {
				t.Fatal("P9.18: what is sure is not true:", n, truly, s)
			}
		}
		for range 30 {
			places := d.group(s.Places, 1+d.roll(20))
			told, odd, e := stick.Tells(s, places)
			if is := isTold(s, places...); told != is || e != api.OK || odd != (is && isOdd(truly, places)) {
				t.Fatalf("P9.4: Tells of %v of %v: %v, %v, error %d", places, s, told, odd, e)
			}
		}
	}
}

// withFree returns a stick of 48 places, of which so many can be chosen, with notes in which they are mixed; and notches that fit.
func (d *dice) withFree(free int) (api.Stick, []bool) {
	x := d.notched(48)
	for {
		s := d.truly(x, 48-free, 2+d.roll(10))
		if n, _ := stick.Free(s); n == free {
			return s, x
		}
	}
}

func TestNearestOfGreatSticks(t *testing.T) {
	d := dice(7)
	for free := range 13 {
		s, truly := d.withFree(free)
		x := slices.Clone(truly)
		near, n, e := stick.Nearest(s, x)
		same(t, "P9.18: Nearest of true notches", near, e, truly...)
		is(t, "P9.18: Nearest of true notches", n, e, 0)
		for range 48 {
			p := d.roll(48)
			x[p] = !x[p]
		}
		near, n, e = stick.Nearest(s, x)
		ask, _ := stick.Ask(s)
		var want []bool
		for _, chosen := range allNotches(free) {
			known := s
			for i, p := range ask {
				known = more(known, note(api.MaxID-i, chosen[i], p))
			}
			fit, f := stick.Find(known)
			if id, is, g := stick.Fits(s, fit); f != api.OK || !is || g != api.OK {
				t.Fatal("P9.2: Find does not fit:", id, f, g)
			}
			if want == nil || apart(fit, x) < apart(want, x) || apart(fit, x) == apart(want, x) && slices.Compare(ones(fit), ones(want)) < 0 {
				want = fit
			}
		}
		same(t, "P9.8: Nearest", near, e, want...)
		is(t, "P9.8: Nearest", n, e, apart(want, x))
	}
	s, truly := d.withFree(13)
	for _, c := range named(input{notched: truly}, "Nearest") {
		failsAt(t, "P9.8, R4", "13 places that can be chosen", c, s, api.ErrLimit)
	}
}

// ones returns notches as numbers: 1 for what is notched.
func ones(notched []bool) []int {
	l := make([]int, len(notched))
	for p, is := range notched {
		if is {
			l[p] = 1
		}
	}
	return l
}

// askedOf returns a stick with a note for each place of Ask that says anything.
func (d *dice) askedOf(s api.Stick) api.Stick {
	ask, _ := stick.Ask(s)
	for i, p := range ask {
		s = more(s, note(api.MaxID-i, d.roll(2) == 1, p))
	}
	return s
}

func TestAsking(t *testing.T) {
	d := dice(8)
	for range 300 {
		s := d.rolled(12, 20, 0)
		n, _ := stick.Free(s)
		ask, e := stick.Ask(s)
		if e != api.OK || len(ask) != n {
			t.Fatalf("P9.17: Ask of %v: %v, error %d, %d are free", s, ask, e, n)
		}
		for range 5 {
			known := d.askedOf(s)
			sure, e := stick.Sure(known)
			n, f := stick.Free(known)
			if e != api.OK || f != api.OK || len(sure) != s.Places || n != 0 {
				t.Fatalf("P9.17: Sure of %v: %v, errors %d and %d, %d are free", known, sure, e, f, n)
			}
		}
		for i := range ask {
			known := s
			for _, p := range slices.Delete(slices.Clone(ask), i, i+1) {
				known = more(known, note(api.MaxID-p, true, p))
			}
			if sure, e := stick.Sure(known); e != api.OK || len(sure) == s.Places {
				t.Fatalf("P9.7: %v is not needed in %v", ask[i], s)
			}
		}
	}
}

func TestFurtherNotes(t *testing.T) {
	d := dice(9)
	kinds := map[[2]bool]int{}
	for range 1500 {
		s, _ := d.manyOf()
		if len(s.Notes) == 60 {
			continue
		}
		n := note(api.MaxID, d.roll(2) == 1, d.group(s.Places, 2+d.roll(30))...)
		before, _ := stick.Free(s)
		sure, _ := stick.Sure(s)
		told, odd, _ := stick.Tells(s, n.Places)
		with, e := stick.Add(s, n)
		after, f := stick.Free(with)
		if _, is, _ := stick.Clash(with); is != (told && odd != n.Odd) || e != api.OK || is != (f == api.ErrClash) {
			t.Fatalf("P9.16: %v to %v: %v, errors %d and %d", n, s, is, e, f)
		}
		kinds[[2]bool{told, f == api.OK}]++
		if f != api.OK {
			continue
		}
		if after != before && after != before-1 || (after == before) != told {
			t.Fatalf("P9.16: %d are free of %v, then %d with %v", before, s, after, n)
		}
		now, _ := stick.Sure(with)
		for _, x := range sure {
			if !slices.Contains(now, x) {
				t.Fatalf("P9.16: %v was sure in %v, and is not with %v", x, s, n)
			}
		}
	}
	if kinds[[2]bool{true, true}] < 100 || kinds[[2]bool{true, false}] < 100 || kinds[[2]bool{false, true}] < 100 {
		t.Error("the notes are too much alike:", kinds)
	}
}

func TestNotesTellTheirParity(t *testing.T) {
	d := dice(10)
	for range 300 {
		s, _ := d.manyOf()
		for _, n := range s.Notes {
			told, odd, e := stick.Tells(s, n.Places)
			if !told || odd != n.Odd || e != api.OK {
				t.Fatalf("P9.15: Tells of %v of %v: %v, %v, error %d", n, s, told, odd, e)
			}
		}
	}
}

func TestTrueSticks(t *testing.T) {
	d := dice(11)
	for range 500 {
		x := d.notched(1 + d.roll(20))
		var groups [][]int
		for range d.roll(61) {
			groups = append(groups, d.group(len(x), 1+d.roll(8)))
		}
		s, _ := stick.Cut(x, groups)
		if id, is, e := stick.Fits(s, x); id != 0 || !is || e != api.OK {
			t.Fatalf("P9.18: %v does not fit %v: %d, error %d", x, s, id, e)
		}
		ids, is, e := stick.Clash(s)
		if len(ids) > 0 || is || e != api.OK {
			t.Fatalf("P9.18: Clash of %v: %v, error %d", s, ids, e)
		}
		sure, _ := stick.Sure(s)
		for _, n := range sure {
			if x[n.Place] != n.Notched {
				t.Fatalf("P9.18: %v of %v is sure in %v", n, x, s)
			}
		}
		near, n, e := stick.Nearest(s, x)
		if free, _ := stick.Free(s); free > 12 {
			fails(t, "P9.8: Nearest", e, api.ErrLimit)
			continue
		}
		if same(t, "P9.18: Nearest", near, e, x...); n != 0 {
			t.Fatalf("P9.18: Nearest of %v: %d apart", x, n)
		}
	}
}
