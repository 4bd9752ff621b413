package about_test

import (
	"math"
	"slices"
	"strings"
	"testing"

	"potence/about"
	"potence/api"
)

// is returns a definition of the kind DfIs.
func is(name string, known int, days api.Vague) api.Define {
	return api.Define{Name: name, Known: known, Kind: api.DfIs, Days: days}
}

// after returns a definition of the kind DfAfter.
func after(name string, known int, of string, days api.Vague) api.Define {
	return api.Define{Name: name, Known: known, Kind: api.DfAfter, Of: of, Days: days}
}

// both returns a definition of the kind DfBoth.
func both(name string, known int, of, with string) api.Define {
	return api.Define{Name: name, Known: known, Kind: api.DfBoth, Of: of, With: with}
}

// one returns a definition of the kind DfOne.
func one(name string, known int, of, with string) api.Define {
	return api.Define{Name: name, Known: known, Kind: api.DfOne, Of: of, With: with}
}

// feasts returns the calendar of the chapter's examples.
func feasts() []api.Define {
	a, _ := examples()
	return []api.Define{is("lammas", 0, a), after("harvest", 2, "lammas", around(7, 9, 0)), is("lammas", 5, around(214, 214, 0))}
}

// sharp returns a day that is known exactly.
func sharp(n int) api.Vague { return around(n, n, 0) }

func TestFormed(t *testing.T) {
	a, b := examples()
	longest := strings.Repeat("z", 24)
	for _, d := range []api.Define{
		is("a", 0, a), is(longest, 730, api.Vague{}), is("lammas", 3, around(-3000, 3000, 0)),
		after("a", 0, "a", a), after("a", 0, longest, api.Vague{}),
		both("a", 0, "b", "c"), both("a", 730, "a", "a"), both(longest, 0, longest, longest),
		one("a", 0, "b", "c"), one("a", 730, "a", "a"),
	} {
		fails(t, "P2.8: a formed definition", about.Calendar([]api.Define{d}), api.OK)
	}
	var wrong []api.Define
	for _, name := range []string{"", longest + "z", "A", "lammas day", "lammas1", "a`", "a{", "`", "{", "l\xc3\xa4mmas", "\x00", "-", "a\n"} {
		wrong = append(wrong, is(name, 0, a), after(name, 0, "a", a), both(name, 0, "a", "b"), one(name, 0, "a", "b"))
		wrong = append(wrong, after("a", 0, name, a), both("a", 0, name, "b"), both("a", 0, "b", name), one("a", 0, name, "b"), one("a", 0, "b", name))
	}
	for _, known := range []int{-1, 731, math.MaxInt, math.MinInt} {
		wrong = append(wrong, is("a", known, a), after("a", known, "a", a), both("a", known, "a", "b"), one("a", known, "a", "b"))
	}
	for _, kind := range []int{0, 5, -1, math.MaxInt, math.MinInt} {
		wrong = append(wrong, api.Define{Name: "a", Kind: kind}, api.Define{Name: "a", Kind: kind, Of: "a", With: "b", Days: a})
	}
	for _, days := range wrongs() {
		wrong = append(wrong, is("a", 0, days), after("a", 0, "a", days))
	}
	for _, d := range []api.Define{
		{Kind: api.DfIs, Of: "b", Days: a}, {Kind: api.DfIs, With: "b", Days: a}, {Kind: api.DfIs, Of: "b", With: "c", Days: a},
		{Kind: api.DfAfter, Of: "b", With: "c", Days: a}, {Kind: api.DfAfter, With: "c", Days: a}, {Kind: api.DfAfter, Days: a},
		{Kind: api.DfBoth, Of: "b", With: "c", Days: b}, {Kind: api.DfBoth, Of: "b", With: "c", Days: steps(api.Span{}, 11, span(0, 1))},
		{Kind: api.DfOne, Of: "b", With: "c", Days: b}, {Kind: api.DfOne, Of: "b", With: "c", Days: sharp(1)},
	} {
		d.Name = "a"
		wrong = append(wrong, d)
	}
	wrong = append(wrong, api.Define{})
	for _, d := range wrong {
		if e := about.Calendar([]api.Define{d}); e != api.ErrForm {
			t.Errorf("P2.8: %+v: error %d", d, e)
		}
	}
}

// many returns n definitions of one name.
func many(n int) []api.Define {
	var l []api.Define
	for i := range n {
		l = append(l, is("a", i, sharp(i)))
	}
	return l
}

func TestCalendar(t *testing.T) {
	wrong := is("A", 0, sharp(1))
	for _, x := range []struct {
		what string
		l    []api.Define
		e    api.Errno
	}{
		{"none", nil, api.OK},
		{"the example", feasts(), api.OK},
		{"30", many(30), api.OK},
		{"31", many(31), api.ErrLimit},
		{"31, a wrong one first", append([]api.Define{wrong}, many(30)...), api.ErrLimit},
		{"31, one twice", append(many(30), is("a", 0, sharp(1))), api.ErrLimit},
		{"a wrong one last", append(many(29), wrong), api.ErrForm},
		{"one twice", append(many(29), is("a", 28, sharp(1))), api.ErrTwice},
		{"one twice, of other kinds", append(many(29), one("a", 0, "b", "c")), api.ErrTwice},
		{"one twice ahead of a wrong one", []api.Define{is("a", 4, sharp(1)), is("a", 4, sharp(1)), wrong}, api.ErrTwice},
		{"a wrong one ahead of one twice", []api.Define{is("a", 4, sharp(1)), wrong, is("a", 4, sharp(1))}, api.ErrForm},
		{"a wrong one that is there twice", []api.Define{is("a", 4, sharp(1)), {Name: "a", Known: 4}}, api.ErrForm},
		{"one name on two days", []api.Define{is("a", 4, sharp(1)), is("a", 3, sharp(1))}, api.OK},
		{"two names on one day", []api.Define{is("a", 4, sharp(1)), is("b", 4, sharp(1))}, api.OK},
		{"what rests on itself", []api.Define{after("a", 4, "a", sharp(1))}, api.OK},
	} {
		if e := about.Calendar(x.l); e != x.e {
			t.Errorf("P2.8: calendar of %s: error %d, want %d", x.what, e, x.e)
		}
	}
}

// told is a function with definitions, as one that returns whether all else than the error is zero.
type told struct {
	do           func(l []api.Define, name string, known int) (zero bool, e api.Errno)
	known, named bool
}

func toldOf() map[string]told {
	return map[string]told{
		"Names": {func(l []api.Define, _ string, known int) (bool, api.Errno) {
			x, e := about.Names(l, known)
			return len(x) == 0, e
		}, true, false},
		"Means": {func(l []api.Define, name string, known int) (bool, api.Errno) {
			return days(about.Means(l, name, known))
		}, true, true},
		"Needs": {func(l []api.Define, name string, known int) (bool, api.Errno) {
			x, e := about.Needs(l, name, known)
			return len(x) == 0, e
		}, true, true},
		"Changes": {func(l []api.Define, name string, _ int) (bool, api.Errno) {
			x, e := about.Changes(l, name)
			return len(x) == 0, e
		}, false, true},
	}
}

func TestErrorsOfCalendars(t *testing.T) {
	bad := append(feasts(), is("", 0, sharp(1)))
	twice := append(feasts(), is("lammas", 0, sharp(1)))
	for what, x := range toldOf() {
		for _, c := range []struct {
			l []api.Define
			e api.Errno
		}{{bad, api.ErrForm}, {twice, api.ErrTwice}, {many(31), api.ErrLimit}} {
			// The day and the name are wrong, too: what is wrong of the definitions goes first.
			if zero, e := x.do(c.l, "", -1); e != c.e || !zero {
				t.Errorf("P2.8: %s of wrong definitions: error %d, want %d, zero %v", what, e, c.e, zero)
			}
		}
		for _, known := range []int{-1, 731, math.MaxInt, math.MinInt} {
			if zero, e := x.do(feasts(), "", known); x.known && (e != api.ErrArg || !zero) {
				t.Errorf("P2.8: %s as known on %d: error %d, zero %v", what, known, e, zero)
			}
		}
		for _, name := range []string{"", "Lammas", "lammas ", "lammas\n", strings.Repeat("a", 25), "\xff"} {
			if zero, e := x.do(feasts(), name, 0); x.named && (e != api.ErrForm || !zero) {
				t.Errorf("P2.8: %s of the name %q: error %d, zero %v", what, name, e, zero)
			}
		}
		if _, e := x.do(feasts(), "lammas", 730); e != api.OK {
			t.Errorf("P2.8: %s as known on the last day: error %d", what, e)
		}
	}
}

// listed reports a promise whose list is not what is wanted, or comes with an error.
func listed[T comparable](t *testing.T, what string, got []T, e api.Errno, want ...T) {
	t.Helper()
	if e != api.OK || !slices.Equal(got, want) {
		t.Errorf("%s: got %v, error %d; want %v", what, got, e, want)
	}
}

func TestExampleOfCalendars(t *testing.T) {
	l := feasts()
	m, e := about.Means(l, "harvest", 2)
	same(t, "P2.9: harvest as known on 2", m, e, around(220, 222, 1))
	cut(t, "P2.9: harvest as known on 2", m, 12, span(220, 222))
	m, e = about.Means(l, "harvest", 1)
	if e != api.ErrNone || m != (api.Vague{}) {
		t.Error("P2.9: harvest as known on 1:", m, e)
	}
	m, e = about.Means(l, "harvest", 5)
	cut(t, "P2.9: harvest as known on 5", m, 1, span(221, 223))
	fails(t, "P2.9: harvest as known on 5", e, api.OK)
	needs, e := about.Needs(l, "harvest", 2)
	listed(t, "P2.9: needs of harvest", needs, e, "lammas")
	needs, e = about.Needs(l, "lammas", 730)
	listed(t, "P2.9: needs of lammas", needs, e)
	if needs, e := about.Needs(l, "harvest", 1); e != api.ErrNone || len(needs) != 0 {
		t.Error("P2.9: needs of harvest as known on 1:", needs, e)
	}
	changes, e := about.Changes(l, "harvest")
	listed(t, "P2.10: changes of harvest", changes, e, 2, 5)
	changes, e = about.Changes(l, "lammas")
	listed(t, "P2.10: changes of lammas", changes, e, 0, 5)
	changes, e = about.Changes(l, "easter")
	listed(t, "P2.10: changes of what is never defined", changes, e)
	names, e := about.Names(l, 1)
	listed(t, "P2.8: names as known on 1", names, e, "lammas")
	names, e = about.Names(l, 2)
	listed(t, "P2.8: names as known on 2", names, e, "harvest", "lammas")
	names, e = about.Names(nil, 0)
	listed(t, "P2.8: names of nothing", names, e)
}

func TestOrderOfNames(t *testing.T) {
	l := []api.Define{is("b", 3, sharp(1)), is("ab", 3, sharp(1)), is("a", 3, sharp(1)), is("abc", 4, sharp(1)), is("b", 0, sharp(1)), is("z", 0, sharp(1))}
	names, e := about.Names(l, 3)
	listed(t, "P2.8: names", names, e, "a", "ab", "b", "z")
	l = []api.Define{both("top", 0, "b", "ab"), one("b", 0, "abc", "a"), after("a", 0, "z", sharp(1)), after("ab", 0, "b", sharp(1))}
	names, e = about.Needs(l, "top", 0)
	listed(t, "P2.9: needs, also of what is not defined", names, e, "a", "ab", "abc", "b", "z")
	l = append(l, after("z", 1, "top", sharp(1)))
	names, e = about.Needs(l, "top", 0)
	listed(t, "P2.9: needs as known before", names, e, "a", "ab", "abc", "b", "z")
	names, e = about.Needs(l, "a", 1)
	listed(t, "P2.9: needs of what rests on itself", names, e, "a", "ab", "abc", "b", "top", "z")
	l = []api.Define{after("a", 0, "b", sharp(1)), after("b", 0, "b", sharp(1))}
	names, e = about.Needs(l, "a", 0)
	listed(t, "P2.9: needs of what rests on something that rests on itself", names, e, "b")
}

// meant reports a promise about what a name means, or which error it has.
func meant(t *testing.T, what string, l []api.Define, name string, want api.Vague, e api.Errno) {
	t.Helper()
	if m, f := about.Means(l, name, 9); m != want || f != e {
		t.Errorf("P2.9: %s: got %v, error %d; want %v, error %d", what, m, f, want, e)
	}
}

func TestMeans(t *testing.T) {
	l := []api.Define{
		is("p", 0, around(10, 12, 1)), is("q", 0, around(12, 15, 2)), is("far", 0, around(3000, 3000, 0)), is("early", 0, sharp(1)),
		after("later", 0, "p", around(1, 2, 1)), after("same", 0, "p", api.Vague{}),
		both("agreed", 0, "p", "q"), both("half", 0, "early", "p"), one("either", 0, "early", "later"),
		after("farther", 0, "far", sharp(1)), both("clash", 0, "early", "far"),
		both("rangefirst", 0, "farther", "clash"), one("clashfirst", 0, "clash", "farther"), one("clashsecond", 0, "p", "clash"),
		after("last", 0, "clash", sharp(3000)), one("over", 0, "last", "farther"), both("under", 0, "farther", "last"),
		after("ring", 0, "chain", sharp(1)), one("chain", 0, "p", "ring"), both("onring", 0, "clash", "ring"),
		after("self", 0, "self", sharp(1)), after("lost", 0, "nothing", sharp(1)), one("lostring", 0, "ring", "lost"),
		both("lostself", 0, "lostself", "nothing"), both("clashlost", 0, "clash", "lost"), after("ringclash", 0, "onring", sharp(3000)),
	}
	half := around(10, 12, 1)
	for i := range half.Spans {
		half.Spans[i] = span(1, 1)
	}
	meant(t, "a day", l, "p", around(10, 12, 1), api.OK)
	meant(t, "a day after", l, "later", around(11, 14, 2), api.OK)
	meant(t, "no day after", l, "same", around(10, 12, 1), api.OK)
	agreed, _, _ := about.Both(around(10, 12, 1), around(12, 15, 2))
	meant(t, "both", l, "agreed", agreed, api.OK)
	meant(t, "both, where only a low degree agrees", l, "half", half, api.OK)
	hull, _ := about.Hull(sharp(1), around(11, 14, 2))
	meant(t, "one of both", l, "either", hull, api.OK)
	for name, e := range map[string]api.Errno{
		"farther": api.ErrRange, "clash": api.ErrClash, "rangefirst": api.ErrRange, "clashfirst": api.ErrClash, "clashsecond": api.ErrClash,
		"last": api.ErrClash, "over": api.ErrClash, "under": api.ErrRange,
		"ring": api.ErrState, "chain": api.ErrState, "onring": api.ErrState, "self": api.ErrState, "ringclash": api.ErrState,
		"lost": api.ErrNone, "nothing": api.ErrNone, "lostring": api.ErrNone, "lostself": api.ErrNone, "clashlost": api.ErrNone,
	} {
		meant(t, name, l, name, api.Vague{}, e)
	}
}

func TestManyWays(t *testing.T) {
	// As many ways lead down this calendar as 2 to the power of 29.
	names := "abcdefghijklmnopqrstuvwxyz"
	name := func(i int) string { return strings.Repeat("x", i/26) + names[i%26:i%26+1] }
	l := []api.Define{is(name(0), 0, around(5, 6, 1))}
	for i := 1; i < 30; i++ {
		l = append(l, one(name(i), 0, name(i-1), name(i-1)))
	}
	slices.Reverse(l)
	m, e := about.Means(l, name(29), 0)
	same(t, "R1: a meaning to which many ways lead", m, e, around(5, 6, 1))
	needs, e := about.Needs(l, name(29), 0)
	if e != api.OK || len(needs) != 29 || !slices.IsSorted(needs) {
		t.Error("R1: needs to which many ways lead:", needs, e)
	}
	l[29] = after(name(0), 0, name(29), sharp(1))
	m, e = about.Means(l, name(0), 0)
	if e != api.ErrState || m != (api.Vague{}) {
		t.Error("R1: a long ring:", m, e)
	}
}

func TestChanges(t *testing.T) {
	a, b := examples()
	for _, x := range []struct {
		what string
		l    []api.Define
		want []int
	}{
		{"nothing", nil, nil},
		{"the first and the last day", []api.Define{is("x", 0, a), is("x", 730, b)}, []int{0, 730}},
		{"a definition that says the same", []api.Define{is("x", 3, a), is("x", 4, a), is("x", 5, b), is("x", 6, a)}, []int{3, 5, 6}},
		{"definitions in no order", []api.Define{is("x", 6, a), is("x", 5, b), is("x", 4, a), is("x", 3, a)}, []int{3, 5, 6}},
		{"one that says the same in other words", []api.Define{is("y", 1, a), is("x", 3, a), after("x", 7, "y", api.Vague{})}, []int{3}},
		{"one error for another", []api.Define{after("x", 2, "y", sharp(1)), after("y", 4, "x", sharp(1)), is("y", 6, sharp(3000)), is("y", 8, sharp(2999)), is("x", 9, sharp(3000))}, []int{4, 6, 8}},
		{"nothing known for an error of the same number", []api.Define{after("x", 2, "y", sharp(1))}, nil},
		{"zeros for an error", []api.Define{after("x", 2, "y", sharp(1)), is("y", 5, sharp(-1))}, []int{5}},
		{"another name", []api.Define{is("x", 3, a), is("y", 5, b)}, []int{3}},
	} {
		got, e := about.Changes(x.l, "x")
		listed(t, "P2.10: changes by "+x.what, got, e, x.want...)
	}
}

// newest returns the definition of a name, as known on a day, by the words of the chapter.
func newest(l []api.Define, name string, known int) (api.Define, bool) {
	at := -1
	for i, d := range l {
		if d.Name == name && d.Known <= known && (at < 0 || d.Known > l[at].Known) {
			at = i
		}
	}
	if at < 0 {
		return api.Define{}, false
	}
	return l[at], true
}

// rests returns on what a name rests: what is reached from it in at least one step and at most as many as there are definitions.
func rests(l []api.Define, name string, known int) map[string]bool {
	all := map[string]bool{}
	now := map[string]bool{name: true}
	for range len(l) + 1 {
		next := map[string]bool{}
		for n := range now {
			d, _ := newest(l, n, known)
			for _, part := range []string{d.Of, d.With} {
				if part != "" {
					next[part], all[part] = true, true
				}
			}
		}
		now = next
	}
	return all
}

// explained returns what a name means, by the words of the chapter.
func explained(l []api.Define, name string, known int) (api.Vague, api.Errno) {
	under := rests(l, name, known)
	ring := false
	for n := range under {
		if _, ok := newest(l, n, known); !ok {
			return api.Vague{}, api.ErrNone
		}
		ring = ring || rests(l, n, known)[n]
	}
	d, ok := newest(l, name, known)
	switch {
	case !ok:
		return api.Vague{}, api.ErrNone
	case ring || under[name]:
		return api.Vague{}, api.ErrState
	case d.Kind == api.DfIs:
		return d.Days, api.OK
	}
	of, e := explained(l, d.Of, known)
	if e != api.OK {
		return api.Vague{}, e
	}
	if d.Kind == api.DfAfter {
		return about.Plus(of, d.Days)
	}
	with, e := explained(l, d.With, known)
	if e != api.OK {
		return api.Vague{}, e
	}
	if d.Kind == api.DfOne {
		return about.Hull(of, with)
	}
	m, _, e := about.Both(of, with)
	return m, e
}

// calendar returns some definitions of the names a to f, of the kinds that are given.
func (d *dice) calendar(kinds ...int) []api.Define {
	var l []api.Define
	name := func(n int) string { return string(rune('a' + d.roll(n))) }
	for range d.roll(12) {
		x := api.Define{Name: name(6), Known: d.roll(6), Kind: kinds[d.roll(len(kinds))]}
		if d.roll(9) == 0 {
			x.Known = 730
		}
		if x.Kind != api.DfIs {
			x.Of = name(7)
		}
		switch x.Kind {
		case api.DfBoth, api.DfOne:
			x.With = name(6)
		default:
			x.Days = d.vague(d.roll(12), 6)
			if d.roll(6) == 0 {
				x.Days = sharp(3000 - d.roll(20))
			}
		}
		if about.Calendar(append(l, x)) == api.OK {
			l = append(l, x)
		}
	}
	return l
}

// names returns the names that some definitions may have, and one that none has.
func names() []string { return []string{"a", "b", "c", "d", "e", "f", "g", "other"} }

func TestSomeCalendars(t *testing.T) {
	seen := map[api.Errno]int{}
	d := dice(11)
	for range 1500 {
		l := d.calendar(api.DfIs, api.DfIs, api.DfAfter, api.DfBoth, api.DfOne)
		for _, name := range names() {
			for _, known := range []int{0, 1, 2, 3, 4, 5, 6, 729, 730} {
				want, f := explained(l, name, known)
				got, e := about.Means(l, name, known)
				if got != want || e != f {
					t.Fatalf("P2.9: %s of %+v as known on %d: %v, error %d; want %v, error %d", name, l, known, got, e, want, f)
				}
				seen[e]++
				needs, e := about.Needs(l, name, known)
				_, ok := newest(l, name, known)
				under := rests(l, name, known)
				for _, n := range needs {
					delete(under, n)
				}
				if ok != (e == api.OK) || !ok && (e != api.ErrNone || len(needs) != 0) || ok && (len(under) != 0 || !slices.IsSorted(needs) || len(slices.Compact(slices.Clone(needs))) != len(needs)) {
					t.Fatalf("P2.9: needs of %s of %+v as known on %d: %v, error %d, without %v", name, l, known, needs, e, under)
				}
			}
		}
	}
	for _, e := range []api.Errno{api.OK, api.ErrNone, api.ErrState, api.ErrRange, api.ErrClash} {
		if seen[e] < 100 {
			t.Errorf("too few meanings with the error %d: %d", e, seen[e])
		}
	}
}

func TestNeedsAreNoMore(t *testing.T) {
	d := dice(12)
	for range 1500 {
		l := d.calendar(api.DfIs, api.DfAfter, api.DfBoth, api.DfOne)
		for _, name := range names() {
			needs, _ := about.Needs(l, name, 730)
			under := rests(l, name, 730)
			for _, n := range needs {
				if !under[n] {
					t.Fatalf("P2.9: %s of %+v does not rest on %s", name, l, n)
				}
			}
		}
	}
}

func TestNamesAndChangesOfSomeCalendars(t *testing.T) {
	d := dice(13)
	for range 60 {
		l := d.calendar(api.DfIs, api.DfIs, api.DfAfter, api.DfBoth, api.DfOne)
		for _, name := range names() {
			var want []int
			before, f := api.Vague{}, api.ErrNone
			for day := 0; day <= 730; day++ {
				now, e := about.Means(l, name, day)
				if now != before || e != f {
					want = append(want, day)
				}
				before, f = now, e
			}
			got, e := about.Changes(l, name)
			listed(t, "P2.10: changes", got, e, want...)
		}
		for day := range 7 {
			var want []string
			for _, name := range names() {
				if _, ok := newest(l, name, day); ok {
					want = append(want, name)
				}
			}
			got, e := about.Names(l, day)
			listed(t, "P2.8: names", got, e, want...)
		}
	}
}

func TestWhatDoesNotMatter(t *testing.T) {
	d := dice(14)
	for range 1000 {
		l := d.calendar(api.DfIs, api.DfIs, api.DfAfter, api.DfBoth, api.DfOne)
		mixed := slices.Clone(l)
		for i := range mixed {
			j := d.roll(i + 1)
			mixed[i], mixed[j] = mixed[j], mixed[i]
		}
		for _, name := range names() {
			known := d.roll(6)
			want, f := about.Means(l, name, known)
			if got, e := about.Means(mixed, name, known); got != want || e != f {
				t.Fatalf("P2.15: %s of %+v as known on %d depends on the order", name, l, known)
			}
			earlier := slices.DeleteFunc(slices.Clone(l), func(x api.Define) bool { return x.Known > known })
			if got, e := about.Means(earlier, name, known); got != want || e != f {
				t.Fatalf("P2.15: %s of %+v as known on %d depends on what comes to be known later", name, l, known)
			}
			under := rests(l, name, known)
			own := slices.DeleteFunc(slices.Clone(l), func(x api.Define) bool { return x.Name != name && !under[x.Name] })
			if got, e := about.Means(own, name, known); got != want || e != f {
				t.Fatalf("P2.15: %s of %+v as known on %d depends on names on which it does not rest", name, l, known)
			}
		}
	}
}

func TestNarrowerDays(t *testing.T) {
	d := dice(15)
	for range 2000 {
		l := d.calendar(api.DfIs, api.DfIs, api.DfAfter, api.DfOne)
		narrow := slices.Clone(l)
		for i := range narrow {
			if narrow[i].Kind != api.DfOne && d.roll(2) == 0 {
				narrow[i].Days = d.narrower(l[i].Days)
			}
		}
		for _, name := range names() {
			wide, e := about.Means(l, name, 5)
			if e != api.OK {
				continue
			}
			if got, e := about.Means(narrow, name, 5); e != api.OK || !holds(got, wide) {
				t.Fatalf("P2.15: %s of %+v with narrower days %+v: %v, error %d; it was %v", name, l, narrow, got, e, wide)
			}
		}
	}
}

func TestMemory(t *testing.T) {
	l := append(feasts(), one("top", 0, "lammas", "harvest"), after("ring", 0, "ring", sharp(1)))
	room := append(slices.Clone(l), make([]api.Define, 4)...)
	for what, x := range toldOf() {
		for _, name := range []string{"top", "ring", "harvest"} {
			_, first := x.do(room[:len(l)], name, 4)
			_, again := x.do(room[:len(l)], name, 4)
			if first != again || !slices.Equal(room[:len(l)], l) || slices.ContainsFunc(room[len(l):], func(d api.Define) bool { return d != api.Define{} }) {
				t.Fatalf("R6, R7: %s of %s changes something", what, name)
			}
		}
	}
	if e := about.Calendar(room[:len(l)]); e != api.OK || !slices.Equal(room[:len(l)], l) {
		t.Error("R6: Calendar changes something:", e)
	}
	needs, _ := about.Needs(l, "top", 4)
	needs[0] = "changed"
	again, e := about.Needs(l, "top", 4)
	listed(t, "R6: needs are new memory", again, e, "harvest", "lammas")
}
