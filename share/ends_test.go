package share_test

import (
	"slices"
	"testing"

	"potence/api"
	"potence/share"
)

func TestEnds(t *testing.T) {
	for _, x := range []struct {
		birds, perch int
		want         api.Span
	}{
		{5, 7, span(1, 1)}, {5, 4, span(1, 1)}, {5, 1, span(5, 5)}, {5, 2, span(3, 3)}, {2, 2, span(1, 1)}, {2, 5, span(0, 0)}, {6, 7, span(2, 2)}, {6, 6, span(1, 1)},
	} {
		s, e := share.Ends(example(), x.birds, x.perch)
		is(t, "P7.6: Ends", s, e, x.want)
	}
	s, e := share.Ends(great(false), 234, api.MaxID-7)
	is(t, "P7.6: Ends of one of 39 holes", s, e, span(5, 8))
	s, e = share.Ends(great(false), 39*2, api.MaxID-7)
	is(t, "P7.6: Ends of one of 39 holes that all give as many", s, e, span(2, 2))
	s, e = share.Ends(great(false), 1, api.MaxID-39)
	is(t, "P7.6: Ends of the last one of 39 holes", s, e, span(0, 1))
	s, e = share.Ends(great(true), 7, api.MaxID-20)
	is(t, "P7.6: Ends of a perch in a perch", s, e, span(7, 7))
	s, e = share.Ends(lone(0, 500), 0, 7)
	is(t, "P7.6: Ends of a hole without birds", s, e, span(0, 0))
}

func TestGives(t *testing.T) {
	all, some, e := share.Gives(example(), 2)
	same(t, "P7.6: Gives for 2 birds", all, e, 4, 6)
	same(t, "P7.6: Gives for 2 birds", some, e, 4, 6)
	// Two holes are worth the same, and the IDs are not in the order of the loft.
	l := changed(func(p []api.Perch) { p[4].Worths = []int{9, 7, 1}; p[3].ID = 8; p[6].ID = 4 })
	all, some, e = share.Gives(l, 2)
	same(t, "P7.6: Gives, surely", all, e, 6)
	same(t, "P7.6: Gives, possibly", some, e, 8, 5, 6)
	all, some, e = share.Gives(lone(0, 1, 5), 0)
	if e != api.OK || len(all) != 0 || len(some) != 0 {
		t.Error("P7.6: Gives for no birds:", all, some, e)
	}
	all, some, e = share.Gives(lone(0, 1, 5), 1)
	same(t, "P7.6: Gives of one hole", all, e, 7)
	same(t, "P7.6: Gives of one hole", some, e, 7)
	all, some, e = share.Gives(great(false), 39)
	if e != api.OK || len(all) != 0 || len(some) != 39 {
		t.Error("P7.6: Gives of 39 holes:", all, some, e)
	}
}

// TestEndsOfAllLofts holds Ends and Gives against a listing of all best takings.
func TestEndsOfAllLofts(t *testing.T) {
	d := dice(7)
	wide := 0
	for range 3000 {
		l := d.rolled()
		all := takings(l)
		for _, birds := range birdsOf(all) {
			best, _ := bestOf(l, all, birds)
			var surely, possibly []int
			for at, p := range l.Perches {
				want := spanOf(best, at)
				s, e := share.Ends(l, birds, p.ID)
				if is(t, "P7.6, P7.15: Ends", s, e, want); t.Failed() {
					t.Fatal(l, birds, p.ID)
				}
				if isHole(l, at) && want.Lo > 0 {
					surely = append(surely, p.ID)
				}
				if isHole(l, at) && want.Hi > 0 {
					possibly = append(possibly, p.ID)
				}
				if want.Hi-want.Lo > 1 {
					wide++
				}
			}
			first, second, e := share.Gives(l, birds)
			same(t, "P7.6, P7.15: Gives, surely", first, e, surely...)
			same(t, "P7.6, P7.15: Gives, possibly", second, e, possibly...)
		}
	}
	if wide < 500 {
		t.Error("the lofts are too narrow:", wide)
	}
}

func TestCap(t *testing.T) {
	seven := changed(func(p []api.Perch) { p[6].Most = 1 })
	for _, x := range []struct {
		l                  api.Loft
		birds, perch, want int
	}{
		{example(), 5, 2, 0}, {example(), 5, 4, 0}, {example(), 5, 1, 0}, {seven, 6, 7, 7}, {seven, 5, 7, 0}, {seven, 6, 2, 6}, {example(), 6, 1, 0},
		{lone(0, 1, 5, 5), 1, 7, 0}, {lone(0, 499), 0, 7, 0},
	} {
		n, e := share.Cap(x.l, x.birds, x.perch)
		is(t, "P7.8: Cap", n, e, x.want)
	}
	for _, l := range []api.Loft{lone(0, 500), great(true), great(false)} {
		n, e := share.Cap(l, 0, l.Perches[len(l.Perches)-1].ID)
		if e != api.ErrLimit || n != 0 {
			t.Errorf("P7.8: Cap of a Most of 500: %d, error %d", n, e)
		}
	}
}

func TestFloor(t *testing.T) {
	two := changed(func(p []api.Perch) { p[5].Least = 2 })
	for _, x := range []struct {
		l                  api.Loft
		birds, perch, want int
	}{
		{example(), 2, 6, 0}, {example(), 2, 2, 0}, {two, 3, 6, 9}, {two, 4, 6, 9}, {two, 6, 6, 7},
		{lone(1, 1, -5), 1, 7, 0}, {lone(2, 3, 5, 5, 5), 3, 7, 0},
	} {
		n, e := share.Floor(x.l, x.birds, x.perch)
		is(t, "P7.8: Floor", n, e, x.want)
	}
	for _, perch := range []int{1, 3, 4, 7} {
		if n, e := share.Floor(example(), 4, perch); e != api.ErrNone || n != 0 {
			t.Errorf("P7.8: Floor of the Least 0 of %d: %d, error %d", perch, n, e)
		}
	}
}

// checkLooser holds Cap and Floor against a listing of all takings of the loft in which a perch gives other numbers.
func checkLooser(t *testing.T, what string, l, looser api.Loft, birds, got int, e api.Errno) bool {
	t.Helper()
	_, before := bestOf(l, takings(l), birds)
	_, after := bestOf(looser, takings(looser), birds)
	is(t, "P7.8: "+what, got, e, after-before)
	if got < 0 || t.Failed() {
		t.Fatalf("P7.14: %s of %v, for %d birds: %d", what, l, birds, got)
	}
	return got > 0
}

func TestCapAndFloorOfAllLofts(t *testing.T) {
	d := dice(8)
	caps, floors := 0, 0
	for range 1500 {
		l := d.rolled()
		for _, birds := range birdsOf(takings(l)) {
			at := d.roll(len(l.Perches))
			p := l.Perches[at]
			n, e := share.Cap(l, birds, p.ID)
			if checkLooser(t, "Cap", l, limited(l, at, p.Least, p.Most+1), birds, n, e) {
				caps++
			}
			n, e = share.Floor(l, birds, p.ID)
			if p.Least == 0 {
				fails(t, "P7.8: Floor of 0", e, api.ErrNone)
			} else if checkLooser(t, "Floor", l, limited(l, at, p.Least-1, p.Most), birds, n, e) {
				floors++
			}
		}
	}
	if caps < 20 || floors < 10 {
		t.Error("the lofts are too loose:", caps, floors)
	}
}

// worthFor returns what a best taking with so many birds is worth, by Worths; never if there is none.
func worthFor(l api.Loft, birds int) int {
	s, e := share.Range(l)
	all, _ := share.Worths(l)
	if e != api.OK {
		return never
	}
	return worthAt(all, birds-s.Lo)
}

// TestLooserLofts widens what a perch gives.
func TestLooserLofts(t *testing.T) {
	d := dice(9)
	for range 600 {
		l := d.rolled()
		p := l.Perches[d.roll(len(l.Perches))]
		looser, e := share.With(l, p.ID, span(p.Least-d.roll(p.Least+1), p.Most+d.roll(4)))
		fails(t, "P7.9: With", e, api.OK)
		for birds := range 30 {
			if a, b := worthFor(l, birds), worthFor(looser, birds); a > b {
				t.Fatalf("P7.14: %d birds of %v are worth %d, of %v %d", birds, l, a, looser, b)
			}
		}
		for _, g := range takings(l) {
			if _, e := share.Worth(looser, g); e != api.OK {
				t.Fatalf("P7.14: %v is no taking of %v any more: error %d", g, looser, e)
			}
		}
	}
}

// checkAgainstTables holds what is told of a great loft against tables of all numbers of its perches.
func checkAgainstTables(t *testing.T, d *dice, l api.Loft) {
	t.Helper()
	table := tableOf(l, 0)
	s, e := share.Range(l)
	all, f := share.Worths(l)
	if e != api.OK || f != api.OK {
		t.Fatal("P7.2, P7.3: Range and Worths of a great loft:", e, f)
	}
	for n, w := range table {
		if w != worthAt(all, n-s.Lo) && w != never || w == never && n >= s.Lo && n <= s.Hi {
			t.Fatalf("P7.3: Worths of %d birds of %v: %v, want %d", n, l, all, w)
		}
	}
	checkSteps(t, l, s.Lo, all)
	birds := s.Lo + d.roll(s.Hi-s.Lo+1)
	x := checkBest(t, l, birds, table[birds])
	at := d.roll(len(l.Perches))
	p := l.Perches[at]
	ends, e := share.Ends(l, birds, p.ID)
	if e != api.OK || x.Given[at] < ends.Lo || x.Given[at] > ends.Hi {
		t.Fatalf("P7.15: Ends of %v for %d birds and %d: %v, error %d", l, birds, p.ID, ends, e)
	}
	for n := max(ends.Lo-1, p.Least); n <= min(ends.Hi+1, p.Most); n++ {
		isBest := worthAt(tableOf(limited(l, at, n, n), 0), birds) == table[birds]
		if isBest != (n >= ends.Lo && n <= ends.Hi) {
			t.Fatalf("P7.6: %d of %v gives %d in a best taking with %d birds: %v, but Ends are %v", p.ID, l, n, birds, isBest, ends)
		}
	}
	n, e := share.Cap(l, birds, p.ID)
	is(t, "P7.8: Cap", n, e, worthAt(tableOf(limited(l, at, p.Least, p.Most+1), 0), birds)-table[birds])
	if p.Least > 0 {
		n, e = share.Floor(l, birds, p.ID)
		is(t, "P7.8: Floor", n, e, worthAt(tableOf(limited(l, at, p.Least-1, p.Most), 0), birds)-table[birds])
	}
}

func TestGreatLofts(t *testing.T) {
	d := dice(10)
	for range 120 {
		l := d.frame(30+d.roll(11), 12)
		d.loosen(l, 5)
		checkAgainstTables(t, &d, l)
		checkWay(t, l)
	}
}

// isSameTold says whether the same is told of two lofts.
func isSameTold(a, b api.Loft, birds int) bool {
	s, e := share.Range(a)
	u, f := share.Range(b)
	first, _ := share.Worths(a)
	second, _ := share.Worths(b)
	if s != u || e != f || !slices.Equal(first, second) {
		return false
	}
	w, e := share.Further(a, birds)
	x, f := share.Further(b, birds)
	if w != x || e != f {
		return false
	}
	for _, p := range a.Perches {
		s, e := share.Ends(a, birds, p.ID)
		u, f := share.Ends(b, birds, p.ID)
		if s != u || e != f {
			return false
		}
	}
	return true
}

func TestInAnyOrder(t *testing.T) {
	d := dice(11)
	for range 600 {
		l := d.rolled()
		other := d.reordered(l)
		birds := d.roll(10)
		if s, e := share.Range(l); e == api.OK {
			birds = s.Lo + d.roll(s.Hi-s.Lo+1)
		}
		if !isSameTold(l, other, birds) {
			t.Fatalf("P7.17: for %d birds, of %v and of %v", birds, l, other)
		}
	}
}
