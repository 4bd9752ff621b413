package right_test

import (
	"slices"
	"testing"

	"potence/api"
	"potence/right"
)

func TestRests(t *testing.T) {
	for _, x := range []struct {
		day, known int
		claim      api.Claim
		want       []int
	}{
		{45, 60, yes("take"), []int{1}}, {45, 43, yes("take"), []int{0}}, {41, 60, yes("take"), []int{0}}, {45, 60, yes("fast"), []int{0}},
		{45, 60, yes("dearth"), []int{1}}, {45, 60, no("fast"), nil}, {45, 60, yes("ring"), nil}, {45, 60, no("take"), []int{0, 1}}, {45, 60, yes("alms"), []int{0, 1}},
	} {
		l, e := right.Rests(example(), x.day, x.known, x.claim)
		same(t, "P6.6: Rests", l, e, x.want...)
	}
	for _, x := range []struct {
		what, source string
		claim        api.Claim
		want         []int
	}{
		{"a fact alone", "fact x days 0 to 9 known 0;", yes("x"), []int{0}},
		{"its opposite", "fact x days 0 to 9 known 0;", no("x"), nil},
		{"a fact twice", "fact x days 0 to 9 known 0; fact x days 5 to 5 known 5;", yes("x"), nil},
		{"a fact of another day", "fact x days 0 to 9 known 0; fact x days 6 to 6 known 5; fact x days 4 to 6 known 6;", yes("x"), []int{0}},
		{"a fact that a rule says later", "fact x days 0 to 9 known 0; rule r says x rank 1 days 0 to 9;", yes("x"), nil},
		{"a fact against a rule", "fact not x days 0 to 9 known 0; rule r says x rank 1 days 0 to 9;", yes("x"), []int{0}},
	} {
		l, e := right.Rests(parsed(t, x.source), 5, 5, x.claim)
		same(t, "P6.6: Rests: "+x.what, l, e, x.want...)
	}
}

func TestMoot(t *testing.T) {
	l, e := right.Moot(example(), 41, 60)
	same(t, "P6.6: Moot", l, e, 1, 2)
	l, e = right.Moot(example(), 45, 60)
	same(t, "P6.6: Moot", l, e, 0)
	l, e = right.Moot(example(), 101, 60)
	same(t, "P6.6: Moot: no rules in force", l, e, 0, 1, 2, 3, 4, 5, 6)
	l, e = right.Moot(api.Code{}, 0, 0)
	same(t, "P6.6: Moot: nothing", l, e)
	for _, x := range []struct {
		what, source string
		want         []int
	}{
		{"a rule alone", "rule r says x rank 1 days 0 to 9;", nil},
		{"a rule that is denied alone", "rule r says x if y rank 1 days 0 to 9;", []int{0}},
		{"a rule that is open alone", "rule r says x if x rank 1 days 0 to 9;", nil},
		{"two that say the same", "rule r says x rank 1 days 0 to 9; rule s says x rank 2 days 0 to 9;", []int{0, 1}},
		{"two that say the same, one later", "rule r says x if y rank 1 days 0 to 9; rule s says x rank 1 days 0 to 9; rule u says y rank 1 days 0 to 9;", []int{0, 1}},
		{"of a fact", "fact x days 0 to 9 known 0; rule r says x rank 1 days 0 to 9;", []int{0}},
	} {
		l, e := right.Moot(parsed(t, x.source), 5, 5)
		same(t, "P6.6: Moot: "+x.what, l, e, x.want...)
	}
}

func TestRestsAndMootAgainstAPlainReading(t *testing.T) {
	d := dice(17)
	for range 700 {
		c, day, known := d.code(), d.roll(9), d.roll(9)
		moot, e := right.Moot(c, day, known)
		b := lastRound(c, day, known)
		var want []int
		for i := range c.Rules {
			less := lastRound(lessRule(c, i), day, known)
			if !slices.ContainsFunc(claimsOf(c), func(x api.Claim) bool { return less.is(x) != b.is(x) }) {
				want = append(want, i)
			}
		}
		same(t, "P6.6, P6.16: Moot", moot, e, want...)
		var less []round
		for i := range c.Facts {
			less = append(less, lastRound(lessFact(c, i), day, known))
		}
		for _, x := range claimsOf(c) {
			rests, e := right.Rests(c, day, known, x)
			var want []int
			for i := range c.Facts {
				if less[i].is(x) != b.is(x) {
					want = append(want, i)
				}
			}
			same(t, "P6.6, P6.16: Rests", rests, e, want...)
		}
	}
}

// TestWithoutWhatIsMoot holds Is to what Moot and Rests tell.
func TestWithoutWhatIsMoot(t *testing.T) {
	d := dice(18)
	for range 300 {
		c, day, known := d.code(), d.roll(9), d.roll(9)
		moot, _ := right.Moot(c, day, known)
		for _, x := range claimsOf(c) {
			before, _ := right.Is(c, day, known, x)
			rests, _ := right.Rests(c, day, known, x)
			var less []api.Code
			for _, i := range moot {
				n, _ := right.Without(c, []int{i})
				less = append(less, n)
			}
			for i := range c.Facts {
				if !slices.Contains(rests, i) {
					less = append(less, lessFact(c, i))
				}
			}
			for _, n := range less {
				s, e := right.Is(n, day, known, x)
				if e == api.OK && s.Is != before.Is || e == api.ErrNone && before.Is != api.Denied {
					t.Fatalf("P6.16: %v is %v in %v, and %v in %v", x, before, c, s, n)
				}
			}
		}
	}
}

func TestChanges(t *testing.T) {
	for _, x := range []struct {
		known int
		claim api.Claim
		want  []int
	}{
		{60, yes("take"), []int{40, 43}}, {43, yes("take"), []int{40, 47}}, {60, no("take"), []int{43, 47}}, {60, yes("fast"), []int{40, 47}},
		{60, yes("dearth"), []int{43, 51}}, {43, yes("dearth"), nil}, {60, yes("open"), []int{101}}, {60, yes("ring"), []int{101}}, {60, no("ring"), nil}, {60, yes("alms"), []int{43, 47}},
	} {
		l, e := right.Changes(example(), x.known, x.claim)
		same(t, "P6.7: Changes", l, e, x.want...)
	}
	for _, x := range []struct {
		what, source string
		want         []int
	}{
		{"all days", "fact x days 0 to 730 known 0;", nil},
		{"the first day", "fact x days 0 to 0 known 0;", []int{1}},
		{"the last day", "fact x days 730 to 730 known 0;", []int{730}},
		{"from the day 1", "fact x days 1 to 729 known 0;", []int{1, 730}},
		{"one behind the other", "fact x days 5 to 9 known 0; fact x days 10 to 12 known 0;", []int{5, 13}},
		{"one over the other", "fact x days 5 to 9 known 0; fact x days 7 to 12 known 0;", []int{5, 13}},
		{"a rule", "rule r says x rank 1 days 3 to 6; rule s says not x rank 1 days 5 to 8;", []int{3, 5, 7}},
	} {
		l, e := right.Changes(parsed(t, x.source), 5, yes("x"))
		same(t, "P6.7: Changes: "+x.what, l, e, x.want...)
	}
}

func TestChangesAgainstAPlainReading(t *testing.T) {
	d, most := dice(19), 0
	for range 80 {
		c, known := d.code(), d.roll(9)
		var days []round
		for day := range api.MaxDay + 1 {
			days = append(days, lastRound(c, day, known))
		}
		for _, x := range claimsOf(c) {
			var want []int
			for day := 1; day <= api.MaxDay; day++ {
				if days[day].is(x) != days[day-1].is(x) {
					want = append(want, day)
				}
			}
			l, e := right.Changes(c, known, x)
			same(t, "P6.7: Changes", l, e, want...)
			most = max(most, len(l))
		}
	}
	if most < 4 {
		t.Error("P6.7: the most changes:", most)
	}
}

func TestAdd(t *testing.T) {
	f := api.Fact{Claim: no("further"), Days: span(0, 730), Known: 730}
	for _, c := range []api.Code{{}, example(), chain()} {
		more, e := right.Add(c, f)
		want := api.Code{Facts: slices.Concat(c.Facts, []api.Fact{f}), Rules: c.Rules}
		if e != api.OK || !sameCode(more, want) {
			t.Errorf("P6.8: Add: %v, error %d, want %v", more, e, want)
		}
	}
	more, e := right.Add(example(), example().Facts[0])
	if e != api.OK || len(more.Facts) != 3 || more.Facts[2] != example().Facts[0] {
		t.Error("P6.8: Add of a fact twice:", more, e)
	}
	for _, x := range []struct {
		what string
		c    api.Code
		f    api.Fact
		e    api.Errno
	}{
		{"the 31st", full(), f, api.ErrLimit},
		{"the 31st, which is none", full(), api.Fact{}, api.ErrLimit},
		{"no thing", example(), api.Fact{}, api.ErrForm},
		{"a reserved thing", example(), api.Fact{Claim: yes("to")}, api.ErrForm},
		{"no days", example(), api.Fact{Claim: yes("a"), Days: span(1, 0)}, api.ErrForm},
		{"no known", example(), api.Fact{Claim: yes("a"), Known: 731}, api.ErrForm},
		{"a code with a name twice", changed(func(c *api.Code) { c.Rules[0].Name = "west" }), api.Fact{}, api.ErrTwice},
	} {
		if c, e := right.Add(x.c, x.f); e != x.e || !isZero(c) {
			t.Errorf("P6.8: Add: %s: %v, error %d, want %d", x.what, c, e, x.e)
		}
	}
	last := full()
	last.Facts = last.Facts[:29]
	if c, e := right.Add(last, f); e != api.OK || len(c.Facts) != 30 {
		t.Error("P6.8: the 30th fact:", c, e)
	}
}

func TestWithout(t *testing.T) {
	for _, l := range [][]int{nil, {0}, {6}, {2, 3}, {0, 2, 4, 6}, {0, 1, 2, 3, 4, 5, 6}} {
		var rules []api.Rule
		for i, r := range example().Rules {
			if !slices.Contains(l, i) {
				rules = append(rules, r)
			}
		}
		less, e := right.Without(example(), l)
		if e != api.OK || !sameCode(less, api.Code{Facts: example().Facts, Rules: rules}) {
			t.Errorf("P6.8: without %v: %v, error %d", l, less, e)
		}
	}
	for _, l := range [][]int{{7}, {-1}, {0, 7}, {1, 0}, {3, 3}} {
		if less, e := right.Without(example(), l); e != api.ErrArg || !isZero(less) {
			t.Errorf("P6.8: without %v: %v, error %d", l, less, e)
		}
	}
	if less, e := right.Without(api.Code{}, nil); e != api.OK || !sameCode(less, api.Code{}) {
		t.Error("P6.8: without nothing of nothing:", less, e)
	}
}
