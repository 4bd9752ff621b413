package right_test

import (
	"reflect"
	"slices"
	"testing"

	"potence/api"
	"potence/right"
)

// open, granted and denied return what a claim or a rule is, and since which round.
var open = api.Stand{Is: api.Open}

func granted(round int) api.Stand { return api.Stand{Is: api.Granted, Round: round} }

func denied(round int) api.Stand { return api.Stand{Is: api.Denied, Round: round} }

// parsed returns the code of a source.
func parsed(t *testing.T, source string) api.Code {
	t.Helper()
	c, e, at := right.Parse(source)
	if e != api.OK {
		t.Fatalf("P6.1: %q: error %d at %d", source, e, at)
	}
	return c
}

// sameRuling says whether two rulings are the same, be their empty lists nil or not.
func sameRuling(a, b api.Ruling) bool {
	return slices.Equal(a.Things, b.Things) && slices.Equal(a.Yes, b.Yes) && slices.Equal(a.No, b.No) && slices.Equal(a.Rules, b.Rules)
}

// judges reports a code whose ruling is not the one that is wanted, or is not accepted.
func judges(t *testing.T, what string, c api.Code, day, known int, want api.Ruling) {
	t.Helper()
	v, e := right.Judge(c, day, known)
	if e != api.OK || !sameRuling(v, want) {
		t.Errorf("P6.3: %s: %v on the day %d, known %d: %v, error %d, want %v", what, c, day, known, v, e, want)
	}
	fails(t, "P6.3, P6.11: CheckRuling: "+what, right.CheckRuling(c, day, known, want), api.OK)
	for i, thing := range want.Things {
		for _, x := range []struct {
			claim api.Claim
			want  api.Stand
		}{{yes(thing), want.Yes[i]}, {no(thing), want.No[i]}} {
			if s, e := right.Is(c, day, known, x.claim); s != x.want || e != api.OK {
				t.Errorf("P6.3, P6.11: %s: Is %v: %v, error %d, want %v", what, x.claim, s, e, x.want)
			}
		}
	}
}

func TestJudgeOfTheExample(t *testing.T) {
	things := []string{"alms", "dearth", "fast", "open", "ring", "take", "toll"}
	judges(t, "example", example(), 41, 60, api.Ruling{
		Things: things,
		Yes:    []api.Stand{denied(6), denied(1), granted(1), open, open, granted(4), open},
		No:     []api.Stand{denied(1), denied(1), denied(1), open, denied(1), denied(3), denied(1)},
		Rules:  []api.Stand{granted(3), denied(2), denied(5), open, open, open, open},
	})
	judges(t, "example", example(), 45, 60, api.Ruling{
		Things: things,
		Yes:    []api.Stand{granted(6), granted(1), granted(1), open, open, denied(4), open},
		No:     []api.Stand{denied(1), denied(1), denied(1), open, denied(1), granted(3), denied(1)},
		Rules:  []api.Stand{denied(3), granted(2), granted(5), open, open, open, open},
	})
	judges(t, "example", example(), 101, 0, api.Ruling{
		Things: things,
		Yes:    slices.Repeat([]api.Stand{denied(1)}, 7),
		No:     slices.Repeat([]api.Stand{denied(1)}, 7),
		Rules:  slices.Repeat([]api.Stand{denied(0)}, 7),
	})
	judges(t, "nothing", api.Code{}, 0, 0, api.Ruling{})
}

func TestIsOfTheExample(t *testing.T) {
	for _, x := range []struct {
		day, known int
		claim      api.Claim
		want       int
	}{
		{41, 60, yes("take"), api.Granted}, {45, 60, yes("take"), api.Denied}, {45, 43, yes("take"), api.Granted}, {45, 44, yes("take"), api.Denied},
		{45, 60, no("take"), api.Granted}, {45, 60, yes("alms"), api.Granted}, {41, 60, yes("alms"), api.Denied},
		{41, 60, yes("ring"), api.Open}, {41, 60, yes("open"), api.Open}, {41, 60, no("open"), api.Open},
		{47, 60, yes("take"), api.Denied}, {47, 60, no("take"), api.Denied}, {47, 60, yes("dearth"), api.Granted},
	} {
		if s, e := right.Is(example(), x.day, x.known, x.claim); s.Is != x.want || e != api.OK {
			t.Errorf("P6.3: Is of %v on the day %d, known %d: %v, error %d", x.claim, x.day, x.known, s, e)
		}
	}
}

func TestJudge(t *testing.T) {
	const a = " rank 1 days 0 to 9;"
	for _, x := range []struct {
		what, source string
		yes, no      []api.Stand // by thing
		rules        []api.Stand
	}{
		{"a rule without needs", "rule r says x" + a, []api.Stand{granted(2)}, []api.Stand{denied(1)}, []api.Stand{granted(1)}},
		{"a fact", "fact not x days 0 to 9 known 0;", []api.Stand{denied(1)}, []api.Stand{granted(1)}, nil},
		{"a fact of another day", "fact x days 6 to 9 known 0;", []api.Stand{denied(1)}, []api.Stand{denied(1)}, nil},
		{"a fact and its opposite", "fact x days 0 to 9 known 0; fact not x days 5 to 5 known 5;", []api.Stand{granted(1)}, []api.Stand{granted(1)}, nil},
		{"a fact against a rule", "fact not x days 0 to 9 known 0; rule r says x" + a, []api.Stand{denied(2)}, []api.Stand{granted(1)}, []api.Stand{denied(1)}},
		{"a fact and its opposite against a rule", "fact x days 0 to 9 known 0; fact not x days 0 to 9 known 0; rule r says x" + a,
			[]api.Stand{granted(1)}, []api.Stand{granted(1)}, []api.Stand{denied(1)}},
		{"a fact against a rule that waits", "fact not x days 0 to 9 known 0; rule r says x if y" + a + "rule s says y if y" + a,
			[]api.Stand{denied(2), open}, []api.Stand{granted(1), denied(1)}, []api.Stand{denied(1), open}},
		{"a fact that a rule says", "fact x days 0 to 9 known 0; rule r says x if x" + a, []api.Stand{granted(1)}, []api.Stand{denied(1)}, []api.Stand{granted(2)}},
		{"a rule that needs itself", "rule r says x if x" + a, []api.Stand{open}, []api.Stand{denied(1)}, []api.Stand{open}},
		{"a rule that is its own exception", "rule r says x unless x" + a, []api.Stand{open}, []api.Stand{denied(1)}, []api.Stand{open}},
		{"an exception that is not", "rule r says x unless not x" + a, []api.Stand{granted(3)}, []api.Stand{denied(1)}, []api.Stand{granted(2)}},
		{"two rules that are each other's exceptions", "rule r says x unless y" + a + "rule s says y unless x" + a,
			[]api.Stand{open, open}, []api.Stand{denied(1), denied(1)}, []api.Stand{open, open}},
		{"rivals of one rank", "rule r says x" + a + "rule s says not x" + a, []api.Stand{open}, []api.Stand{open}, []api.Stand{open, open}},
		{"a rival of a greater rank", "rule r says x" + a + "rule s says not x rank 2 days 0 to 9;",
			[]api.Stand{denied(3)}, []api.Stand{granted(2)}, []api.Stand{denied(2), granted(1)}},
		{"a rival of another day", "rule r says x" + a + "rule s says not x rank 2 days 6 to 9;", []api.Stand{granted(2)}, []api.Stand{denied(1)}, []api.Stand{granted(1), denied(0)}},
		{"a rival that is denied", "rule r says x" + a + "rule s says not x if y" + a,
			[]api.Stand{granted(4), denied(1)}, []api.Stand{denied(3), denied(1)}, []api.Stand{granted(3), denied(2)}},
		{"a rival that is denied because of a greater one", "rule r says x" + a + "rule s says not x" + a + "rule u says x rank 2 days 0 to 9;",
			[]api.Stand{granted(2)}, []api.Stand{denied(3)}, []api.Stand{granted(3), denied(2), granted(1)}},
		{"a condition of two that is denied", "rule r says x if x, y" + a, []api.Stand{denied(3), denied(1)}, []api.Stand{denied(1), denied(1)}, []api.Stand{denied(2)}},
		{"an exception of two that is granted", "fact y days 5 to 5 known 5; rule r says x unless x, y" + a,
			[]api.Stand{denied(3), granted(1)}, []api.Stand{denied(1), denied(1)}, []api.Stand{denied(2)}},
		{"one rule of two that is granted", "rule r says x if x" + a + "rule s says x" + a, []api.Stand{granted(2)}, []api.Stand{denied(1)}, []api.Stand{granted(3), granted(1)}},
		{"one rule of two that is denied", "rule r says x if x" + a + "rule s says x if y" + a,
			[]api.Stand{open, denied(1)}, []api.Stand{denied(1), denied(1)}, []api.Stand{open, denied(2)}},
	} {
		v := api.Ruling{Things: []string{"x", "y"}[:len(x.yes)], Yes: x.yes, No: x.no, Rules: x.rules}
		judges(t, x.what, parsed(t, x.source), 5, 5, v)
	}
}

func TestLongestChain(t *testing.T) {
	v, e := right.Judge(chain(), 0, 0)
	fails(t, "P6.3: Judge", e, api.OK)
	for i, s := range v.Rules {
		if s != granted(2*i+2) {
			t.Errorf("P6.3: the rule %d of a chain: %v", i, s)
		}
		if s, _ := right.Is(chain(), 0, 0, chain().Rules[i].Says); s != granted(2*i+3) {
			t.Errorf("P6.3: what the rule %d of a chain says: %v", i, s)
		}
	}
}

func TestJudgeAgainstAPlainReading(t *testing.T) {
	d := dice(7)
	for range 1000 {
		day, known := d.roll(9), d.roll(9)
		for _, c := range []api.Code{d.code(), d.steep()} {
			judges(t, "some code", c, day, known, rulingOf(c, day, known))
		}
	}
	for _, c := range rightCodes() {
		for _, x := range [][2]int{{0, 0}, {0, 730}, {41, 60}, {45, 60}, {730, 0}, {730, 730}} {
			judges(t, "some code", c, x[0], x[1], rulingOf(c, x[0], x[1]))
		}
	}
}

// copiedRuling returns a ruling in new memory.
func copiedRuling(v api.Ruling) api.Ruling {
	return api.Ruling{Things: slices.Clone(v.Things), Yes: slices.Clone(v.Yes), No: slices.Clone(v.No), Rules: slices.Clone(v.Rules)}
}

// otherStands returns rulings in which one stand is another one.
func otherStands(v api.Ruling) []api.Ruling {
	var all []api.Ruling
	for list := range 3 {
		for i := range [][]api.Stand{v.Yes, v.No, v.Rules}[list] {
			for _, more := range []api.Stand{{Is: 1}, {Is: -1}, {Is: 2}, {Round: 1}, {Round: -1}, {Is: 1, Round: 1}, {Is: 3}} {
				n := copiedRuling(v)
				s := &[][]api.Stand{n.Yes, n.No, n.Rules}[list][i]
				s.Is, s.Round = s.Is+more.Is, s.Round+more.Round
				all = append(all, n)
			}
		}
	}
	return all
}

// otherLists returns rulings in which a list is shorter or longer.
func otherLists(v api.Ruling) []api.Ruling {
	var all []api.Ruling
	change := func(change func(v *api.Ruling)) {
		n := copiedRuling(v)
		change(&n)
		all = append(all, n)
	}
	change(func(v *api.Ruling) { v.Things = append(v.Things, "zz") })
	change(func(v *api.Ruling) { v.Yes = append(v.Yes, denied(1)) })
	change(func(v *api.Ruling) { v.No = append(v.No, denied(1)) })
	change(func(v *api.Ruling) { v.Rules = append(v.Rules, denied(0)) })
	change(func(v *api.Ruling) {
		v.Things, v.Yes, v.No = append(v.Things, "zz"), append(v.Yes, denied(1)), append(v.No, denied(1))
	})
	if n := len(v.Things) - 1; n >= 0 {
		change(func(v *api.Ruling) { v.Things = v.Things[:n] })
		change(func(v *api.Ruling) { v.Yes = v.Yes[:n] })
		change(func(v *api.Ruling) { v.No = v.No[:n] })
		change(func(v *api.Ruling) { v.Things, v.Yes, v.No = v.Things[:n], v.Yes[:n], v.No[:n] })
		change(func(v *api.Ruling) { v.Things[n] += "a" })
		change(func(v *api.Ruling) { slices.Reverse(v.Things) })
	}
	if n := len(v.Rules) - 1; n >= 0 {
		change(func(v *api.Ruling) { v.Rules = v.Rules[:n] })
	}
	return all
}

func TestCheckRuling(t *testing.T) {
	d := dice(8)
	all := []api.Code{{}, example(), chain()}
	for range 50 {
		all = append(all, d.code())
	}
	for _, c := range all {
		v, e := right.Judge(c, 5, 5)
		fails(t, "P6.3: Judge", e, api.OK)
		fails(t, "P6.11: CheckRuling of Judge", right.CheckRuling(c, 5, 5, v), api.OK)
		for _, n := range slices.Concat(otherStands(v), otherLists(v)) {
			if sameRuling(n, v) { // one thing, reversed
				continue
			}
			if e := right.CheckRuling(c, 5, 5, n); e != api.ErrProof {
				t.Fatalf("P6.3, P6.11: CheckRuling of %v for %v: error %d", n, v, e)
			}
		}
	}
	v, _ := right.Judge(example(), 41, 60)
	fails(t, "P6.3: the ruling of another day", right.CheckRuling(example(), 45, 60, v), api.ErrProof)
	fails(t, "P6.3: the ruling of another day of that kind", right.CheckRuling(example(), 40, 60, v), api.OK)
	fails(t, "P6.3: the ruling as known on another day", right.CheckRuling(example(), 45, 43, v), api.OK)
	fails(t, "P6.3: no ruling", right.CheckRuling(example(), 41, 60, api.Ruling{}), api.ErrProof)
	fails(t, "P6.3: empty lists", right.CheckRuling(api.Code{}, 41, 60, api.Ruling{Things: []string{}, Rules: []api.Stand{}}), api.OK)
}

func TestNoAttack(t *testing.T) {
	d, both := dice(9), 0
	for range 3000 {
		c, day, known := d.code(), d.roll(9), d.roll(9)
		v, _ := right.Judge(c, day, known)
		given, _ := right.Given(c, day, known)
		for i, s := range v.Rules {
			if s.Is != api.Granted {
				continue
			}
			rivals, _ := right.Rivals(c, i, day)
			if slices.Contains(given, other(c.Rules[i].Says)) || slices.ContainsFunc(rivals, func(j int) bool { return v.Rules[j].Is != api.Denied }) {
				t.Fatalf("P6.10, T6: the granted rule %d of %v can be attacked: %v", i, c, v)
			}
		}
		for i, thing := range v.Things {
			if v.Yes[i].Is != api.Granted || v.No[i].Is != api.Granted {
				continue
			}
			if both++; !slices.Contains(given, yes(thing)) || !slices.Contains(given, no(thing)) {
				t.Fatalf("P6.10: %s and its opposite are granted in %v", thing, c)
			}
		}
	}
	if both == 0 {
		t.Error("P6.10: no claim was granted together with its opposite")
	}
}

// isHarmless says whether no rule has exceptions, or rivals on a day, or one of its own consequences among its If.
func isHarmless(c api.Code, day int) bool {
	for i, r := range c.Rules {
		if len(r.Unless) > 0 || len(rivalsOf(c, i, day)) > 0 {
			return false
		}
		follows := []api.Claim{r.Says}
		for n := 0; n < len(follows); n++ {
			if slices.Contains(r.If, follows[n]) {
				return false
			}
			for _, s := range c.Rules {
				if slices.Contains(s.If, follows[n]) && !slices.Contains(follows, s.Says) {
					follows = append(follows, s.Says)
				}
			}
		}
	}
	return true
}

func TestNothingOpen(t *testing.T) {
	d, harmless := dice(10), 0
	for range 4000 {
		c, day := d.code(), d.roll(9)
		for i := range c.Rules {
			c.Rules[i].Unless = nil
		}
		if !isHarmless(c, day) {
			continue
		}
		harmless++
		v, _ := right.Judge(c, day, d.roll(9))
		if slices.Contains(slices.Concat(v.Yes, v.No, v.Rules), open) {
			t.Fatalf("P6.13: something is open in %v: %v", c, v)
		}
	}
	if harmless < 300 {
		t.Error("P6.13: too few codes:", harmless)
	}
}

func TestKnownLater(t *testing.T) {
	d := dice(11)
	for range 1000 {
		c, day, known := d.code(), d.roll(9), d.roll(9)
		more := tidy(c)
		for range 3 {
			f := d.fact(7)
			f.Known = known + 1 + d.roll(5)
			more.Facts = append(more.Facts, f)
		}
		mixed := tidy(c)
		mixed.Facts = append(mixed.Facts, c.Facts...)
		shuffle(&d, mixed.Facts)
		shuffle(&d, mixed.Rules)
		for _, x := range claimsOf(c) {
			s, e := right.Is(c, day, known, x)
			for _, n := range []api.Code{more, mixed} {
				if r, f := right.Is(n, day, known, x); r != s || e != api.OK || f != api.OK {
					t.Fatalf("P6.14: %v is %v in %v, and %v in %v", x, s, c, r, n)
				}
			}
		}
	}
}

func TestTheOrderOfRules(t *testing.T) {
	d := dice(12)
	for range 500 {
		c, day, known := d.code(), d.roll(9), d.roll(9)
		v, _ := right.Judge(c, day, known)
		mixed := tidy(c)
		shuffle(&d, mixed.Rules)
		w, _ := right.Judge(mixed, day, known)
		for i, r := range c.Rules {
			j := slices.IndexFunc(mixed.Rules, func(s api.Rule) bool { return s.Name == r.Name })
			if v.Rules[i] != w.Rules[j] {
				t.Fatalf("P6.14: the rule %s is %v, and %v in another order of %v", r.Name, v.Rules[i], w.Rules[j], c)
			}
		}
		if !reflect.DeepEqual(v.Yes, w.Yes) || !reflect.DeepEqual(v.No, w.No) {
			t.Fatalf("P6.14: another order of %v: %v, %v", c, v, w)
		}
	}
}
