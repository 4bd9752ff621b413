package stick_test

import (
	"slices"
	"testing"

	"potence/api"
	"potence/stick"
)

func TestClashOfTheExamples(t *testing.T) {
	ids, is, e := stick.Clash(broken())
	if same(t, "P9.5: Clash", ids, e, 2, 5); !is {
		t.Error("P9.5: there is a contradiction")
	}
	l, e := stick.Suspects(broken())
	same(t, "P9.6: Suspects", l, e, 2, 5)
	l, e = stick.Fewest(broken())
	same(t, "P9.6: Fewest", l, e, 2)
	for _, s := range []api.Stick{example(), single(1, 0), single(48, 48), great()} {
		for _, c := range named(input{}, "Clash", "Suspects", "Fewest") {
			failsAt(t, "P9.5, P9.6, R4", "notes that agree", c, s, api.OK)
		}
	}
	empty := more(example(), note(9, true))
	ids, _, e = stick.Clash(empty)
	same(t, "P9.5: Clash of a note without places", ids, e, 9)
	l, e = stick.Suspects(empty)
	same(t, "P9.6: Suspects of a note without places", l, e, 9)
	l, e = stick.Fewest(empty)
	same(t, "P9.6: Fewest of a note without places", l, e, 9)
}

func TestCheckClash(t *testing.T) {
	s := more(broken(), note(9, true), note(8, false), note(6, false, 0, 1))
	for _, x := range []struct {
		ids []int
		e   api.Errno
	}{
		{[]int{2, 5}, api.OK}, {[]int{9}, api.OK}, {[]int{8, 9}, api.OK}, {[]int{2, 5, 8}, api.OK}, {[]int{5, 6}, api.OK}, {[]int{2, 6, 9}, api.OK},
		{nil, api.ErrProof}, {[]int{}, api.ErrProof}, {[]int{2}, api.ErrProof}, {[]int{2, 5, 9}, api.ErrProof}, {[]int{2, 6}, api.ErrProof},
		{[]int{8}, api.ErrProof}, {[]int{1, 2, 5}, api.ErrProof}, {[]int{1}, api.ErrProof}, {[]int{1, 9}, api.ErrProof},
	} {
		if e := stick.CheckClash(s, x.ids); e != x.e {
			t.Errorf("P9.5: CheckClash of %v: error %d", x.ids, e)
		}
	}
}

// without is a list of notes without which the others agree.
type without struct {
	ids []int
	is  bool
}

// leastWithout returns the first of the smallest lists without which the others agree, if one has at most three notes.
func leastWithout(s api.Stick, agree func(s api.Stick) bool) without {
	for _, ids := range subsets(idsOf(s)) {
		if len(ids) <= 3 && agree(lacking(s, ids...)) {
			return without{ids, true}
		}
	}
	return without{}
}

// checkFewest holds Fewest against what it must be.
func checkFewest(t *testing.T, s api.Stick, want without) {
	t.Helper()
	l, e := stick.Fewest(s)
	if want.is {
		same(t, "P9.6: Fewest", l, e, want.ids...)
	} else if fails(t, "P9.6: Fewest", e, api.ErrLimit); len(l) > 0 {
		t.Error("R4: Fewest:", l)
	}
}

// checkClash holds Clash of a stick against whether its notes agree.
func checkClash(t *testing.T, s api.Stick, agree bool) {
	t.Helper()
	ids, is, e := stick.Clash(s)
	if e != api.OK || is == agree || !is && len(ids) > 0 {
		t.Fatalf("P9.5: Clash of %v: %v, %v, error %d", s, ids, is, e)
	}
	if !is {
		return
	}
	if !slices.IsSorted(ids) || !contradicts(s, ids) {
		t.Errorf("P9.5: Clash of %v: %v", s, ids)
	}
	fails(t, "P9.14: CheckClash of Clash", stick.CheckClash(s, ids), api.OK)
	for i := range ids {
		less := slices.Delete(slices.Clone(ids), i, i+1)
		fails(t, "P9.14: CheckClash of Clash without a note", stick.CheckClash(s, less), api.ErrProof)
	}
	suspects, _ := stick.Suspects(s)
	for _, id := range suspects {
		if !slices.Contains(ids, id) {
			t.Errorf("P9.14: %d is one of Suspects, and not in Clash: %v", id, s)
		}
	}
}

// fits says whether some notches fit a small stick.
func fits(s api.Stick) bool { return len(fitting(s)) > 0 }

// checkLists holds CheckClash against all lists of notes of a stick, and Clash against all that contradict each other.
func checkLists(t *testing.T, s api.Stick) {
	t.Helper()
	all := subsets(idsOf(s))
	for _, ids := range all {
		want := api.ErrProof
		if contradicts(s, ids) {
			want = api.OK
		}
		if e := stick.CheckClash(s, ids); e != want || e == api.OK && fits(s) {
			t.Errorf("P9.5, P9.14: CheckClash of %v: error %d", ids, e)
		}
	}
	clash, is, _ := stick.Clash(s)
	for _, ids := range all {
		within := !slices.ContainsFunc(ids, func(id int) bool { return !slices.Contains(clash, id) })
		if is && within && len(ids) < len(clash) && contradicts(s, ids) {
			t.Errorf("P9.5: Clash has a smaller part: %v, of %v", ids, clash)
		}
	}
}

func TestClashOfAllSticks(t *testing.T) {
	d := dice(12)
	sizes := map[int]int{}
	for range 2500 {
		s := d.rolled(4, 8, 5)
		checkClash(t, s, fits(s))
		checkLists(t, s)
		want := leastWithout(s, fits)
		checkFewest(t, s, want)
		var suspects, idle []int
		for _, id := range idsOf(s) {
			if !fits(s) && fits(lacking(s, id)) {
				suspects = append(suspects, id)
			}
			if len(fitting(s)) == len(fitting(lacking(s, id))) {
				idle = append(idle, id)
			}
		}
		l, e := stick.Suspects(s)
		same(t, "P9.6: Suspects", l, e, suspects...)
		if fits(s) {
			l, e = stick.Idle(s)
			same(t, "P9.7: Idle", l, e, idle...)
		}
		if t.Failed() {
			t.Fatal("the stick", s)
		}
		if !want.is {
			want.ids = make([]int, 4)
		}
		sizes[len(want.ids)]++
	}
	for n, least := range []int{100, 100, 100, 20} {
		if sizes[n] < least {
			t.Error("the sticks are too much alike:", sizes)
		}
	}
}

// doubled returns a stick with so many places, and two notes for each of them that contradict each other, and so many notes that tell nothing.
func doubled(places, empty int) api.Stick {
	s := api.Stick{Places: places}
	for p := range places {
		s.Notes = append(s.Notes, note(100-2*p, true, p), note(99-2*p, false, p))
	}
	for i := range empty {
		s.Notes = append(s.Notes, note(1000+i, false))
	}
	return s
}

func TestFewestOfMany(t *testing.T) {
	checkFewest(t, doubled(1, 0), without{[]int{99}, true})
	checkFewest(t, doubled(2, 56), without{[]int{97, 99}, true})
	checkFewest(t, doubled(3, 54), without{[]int{95, 97, 99}, true})
	checkFewest(t, doubled(4, 52), without{})
	checkFewest(t, doubled(30, 0), without{})
	// Each of the first three notes is told by as many as possible, so that only these can be wrong.
	thrice := api.Stick{Places: 3}
	for i := range 60 {
		thrice.Notes = append(thrice.Notes, note(1000-i, i < 3, i%3))
	}
	checkFewest(t, thrice, without{[]int{998, 999, 1000}, true})
	l, e := stick.Suspects(thrice)
	same(t, "P9.6: Suspects of three", l, e)
	four := api.Stick{Places: 4}
	for i := range 60 {
		four.Notes = append(four.Notes, note(1000-i, i < 4, i%4))
	}
	checkFewest(t, four, without{})
	var odd, even api.Stick
	odd.Places, even.Places = 1, 1
	for i := range 60 {
		odd.Notes = append(odd.Notes, note(60-i, i < 3))
		even.Notes = append(even.Notes, note(60-i, false))
	}
	checkFewest(t, odd, without{[]int{58, 59, 60}, true})
	checkFewest(t, even, without{nil, true})
	l, e = stick.Idle(even)
	same(t, "P9.7: Idle of empty notes", l, e, idsOf(even)...)
	l, e = stick.Suspects(even)
	same(t, "P9.6: Suspects of empty notes that agree", l, e)
}

// plainFewest returns the first of the smallest lists without which the others agree, for a stick of any size with at most two such notes.
func plainFewest(s api.Stick) without {
	ids := idsOf(s)
	if agree(s) {
		return without{nil, true}
	}
	for _, id := range ids {
		if agree(lacking(s, id)) {
			return without{[]int{id}, true}
		}
	}
	for i, a := range ids {
		for _, b := range ids[i+1:] {
			if agree(lacking(s, a, b)) {
				return without{[]int{a, b}, true}
			}
		}
	}
	return without{}
}

func TestClashOfGreatSticks(t *testing.T) {
	d := dice(13)
	sizes := map[int]int{}
	for range 30 {
		s := d.truly(d.notched(5+d.roll(20)), 30+d.roll(15), 2+d.roll(6))
		ids := idsOf(s)
		shuffle(&d, ids)
		s = turned(s, ids[:d.roll(3)]...)
		want := plainFewest(s)
		checkFewest(t, s, want)
		checkClash(t, s, agree(s))
		var suspects []int
		for _, id := range idsOf(s) {
			if !agree(s) && agree(lacking(s, id)) {
				suspects = append(suspects, id)
			}
		}
		l, e := stick.Suspects(s)
		same(t, "P9.6: Suspects", l, e, suspects...)
		if t.Failed() {
			t.Fatal("the stick", s)
		}
		sizes[len(want.ids)]++
	}
	if sizes[0] < 5 || sizes[1] < 5 || sizes[2] < 5 {
		t.Error("the sticks are too much alike:", sizes)
	}
}

func TestThreeFaults(t *testing.T) {
	d := dice(14)
	great := 0
	for range 200 {
		s := d.truly(d.notched(10), 60, 2)
		ids := idsOf(s)
		shuffle(&d, ids)
		s = turned(s, ids[:3]...)
		checkClash(t, s, false)
		l, e := stick.Fewest(s)
		less, f := stick.Without(s, l)
		if e != api.OK || f != api.OK || !agree(less) || len(l) > 3 {
			t.Fatalf("P9.14: Fewest of %v: %v, errors %d and %d", s, l, e, f)
		}
		slices.Sort(ids[:3])
		if len(l) < 3 || slices.Compare(l, ids[:3]) > 0 {
			t.Fatalf("P9.6: Fewest of %v: %v, and not %v", s, l, ids[:3])
		}
		if slices.Equal(l, ids[:3]) {
			great++
		}
	}
	if great < 150 {
		t.Error("P9.6: the notes that are wrong are too seldom found:", great)
	}
}

func TestIdle(t *testing.T) {
	s := more(example(), note(12, false, 2, 3), note(9, false), note(11, true, 0))
	l, e := stick.Idle(s)
	same(t, "P9.7: Idle", l, e, 1, 2, 3, 9, 11, 12)
	l, e = stick.Idle(single(48, 48))
	same(t, "P9.7: Idle of single notches", l, e)
	l, e = stick.Idle(single(48, 0))
	same(t, "P9.7: Idle without notes", l, e)
	l, e = stick.Idle(more(single(3, 3), note(7, true, 0, 1, 2)))
	same(t, "P9.7: Idle of a sum", l, e, 7, api.MaxID-2, api.MaxID-1, api.MaxID)
	l, e = stick.Idle(more(single(3, 3), note(7, false, 1, 2)))
	same(t, "P9.7: Idle of another sum", l, e, 7, api.MaxID-2, api.MaxID-1)
}
