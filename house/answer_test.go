package house_test

import (
	"slices"
	"testing"

	"potence/api"
	"potence/house"
	"potence/right"
	"potence/round"
)

// TestAnswer holds replies against what the layers below return for what is known, by a plain reading of the chapter.
func TestAnswer(t *testing.T) {
	d := dice(9)
	kinds := map[[2]int]int{} // by the kind of a question, and the error
	for range 600 {
		c := d.cote()
		l := d.deeds(c, 30)
		for range 20 {
			q := d.question(c)
			got, want := house.Answer(c, l, q), replyOf(c, l, q)
			if !alike(got, want) {
				t.Fatalf("P10.7: %+v of %+v, %+v: %+v, want %+v", q, c, l, got, want)
			}
			if want.Err != api.OK && !alike(want, api.Told{Err: want.Err}) {
				t.Fatalf("P10.7, R4: %+v", got)
			}
			kinds[[2]int{q.Kind, int(want.Err)}]++
		}
	}
	for kind := api.AcRound; kind <= api.AcDue; kind++ {
		if kinds[[2]int{kind, 0}] < 100 {
			t.Error("the questions are too much alike:", kinds)
		}
	}
}

func TestAnswerOfWhatIsNoQuestion(t *testing.T) {
	for _, a := range formedActs() {
		if isAct(a) && a.Kind >= api.AcRound {
			continue
		}
		if got := house.Answer(example(), book(), a); !alike(got, api.Told{Err: api.ErrForm}) {
			t.Fatalf("P10.7: Answer of %+v: %+v", a, got)
		}
	}
}

// told returns the reply to the question of a line.
func told(t *testing.T, c api.Cote, l []api.Deed, line string) api.Told {
	t.Helper()
	acts, e, _ := house.Parse(line + "\n")
	if e != api.OK || len(acts) != 1 {
		t.Fatal("no question:", line)
	}
	return house.Answer(c, l, acts[0])
}

func TestErrorsOfAnswer(t *testing.T) {
	c := example()
	many := takingsFrom(13, 1, 5)
	far := changed(func(c *api.Cote) { c.House = great().House })
	for _, x := range []struct {
		what string
		c    api.Cote
		l    []api.Deed
		line string
		e    api.Errno
	}{
		{"a house of closed stands", changed(func(c *api.Cote) { c.House.Closed = []int{2, 3, 4, 5, 6} }), book(), "round 0 0", api.ErrNone},
		{"a house of closed stands, and no holes", changed(func(c *api.Cote) { c.House.Closed = []int{2, 3, 4, 5, 6} }), book(), "round 12 0", api.OK},
		{"a hole that there is not", c, book(), "nest 36 0 4 0", api.ErrArg},
		{"a day that there is not", c, book(), "nest 5 0 13 0", api.ErrArg},
		{"13 takings", c, many, "nest 5 0 4 0", api.ErrLimit},
		{"13 takings, on a day that there is not", c, many, "nest 5 0 13 0", api.ErrLimit},
		{"30 looks", c, looksAt(30, 1, 5), "nest 5 0 4 0", api.ErrLimit},
		{"30 looks", c, looksAt(30, 1, 5), "clash 5 0", api.OK},
		{"a contradiction", c, contradiction(1, 5), "nest 5 0 4 0", api.ErrClash},
		{"a contradiction elsewhere", c, contradiction(1, 6), "nest 5 0 4 0", api.OK},
		{"a hole that there is not", c, book(), "clash 36 0", api.ErrArg},
		{"13 takings", c, many, "clash 5 0", api.ErrLimit},
		{"a bird at a hole too high up", far, []api.Deed{sight(1, 0, 0, 1001)}, "birds 0", api.ErrArg},
		{"a bird at a hole that high up", far, []api.Deed{sight(1, 0, 0, 1000)}, "birds 0", api.OK},
		{"31 facts", c, repeated(31, 1, func(_, id int) api.Deed { return fact(id, 0, yes("alms"), 0, 0) }), "right alms 0 0", api.ErrLimit},
		{"31 facts", c, repeated(31, 1, func(_, id int) api.Deed { return fact(id, 0, yes("alms"), 0, 0) }), "due 0 0 0", api.ErrLimit},
		{"30 facts", c, repeated(30, 1, func(_, id int) api.Deed { return fact(id, 0, yes("alms"), 0, 0) }), "due 0 0 0", api.OK},
		{"no such thing", c, book(), "right bread 0 0", api.ErrNone},
		{"a thing that is known later", c, []api.Deed{fact(1, 3, yes("bread"), 0, 0)}, "right bread 0 2", api.ErrNone},
		{"a thing that is known", c, []api.Deed{fact(1, 3, yes("bread"), 0, 0)}, "right bread 0 3", api.OK},
		{"a day behind the last one", c, book(), "right alms 730 730", api.OK},
		{"a day behind the last one", c, book(), "due 0 730 730", api.OK},
		{"a day behind the last one", c, book(), "taking 0 13 0", api.ErrArg},
		{"too many birds", c, book(), "taking 5 9 0", api.ErrArg},
		{"as many birds as there are", c, book(), "taking 4 9 0", api.OK},
		{"a contradiction", c, contradiction(1, 5), "taking 0 9 0", api.ErrClash},
		{"a contradiction, and too many birds", c, contradiction(1, 5), "taking 500 9 0", api.ErrClash},
		{"nothing known", c, nil, "taking 1 9 0", api.ErrArg},
		{"nothing known", c, nil, "taking 0 9 0", api.OK},
		{"nothing known", c, nil, "round 0 0", api.OK},
		{"nothing known", c, nil, "birds 0", api.OK},
	} {
		got := told(t, x.c, x.l, x.line)
		if got.Err != x.e || x.e != api.OK && !alike(got, api.Told{Err: x.e}) {
			t.Errorf("P10.7: %s with %s: %+v, want error %d", x.line, x.what, got, x.e)
		}
	}
}

func TestKnownRights(t *testing.T) {
	c, l := example(), book()
	got := told(t, c, l, "right alms 3 4")
	is(t, "P10.7: a ruling", got, got.Err, api.Told{
		Stand: api.Stand{Is: api.Denied, Round: 5},
		Ruling: api.Ruling{
			Things: []string{"alms", "fast", "take"},
			Yes:    []api.Stand{{Is: 2, Round: 5}, {Is: 1, Round: 1}, {Is: 1, Round: 3}},
			No:     []api.Stand{{Is: 2, Round: 1}, {Is: 2, Round: 1}, {Is: 2, Round: 1}},
			Rules:  []api.Stand{{Is: 1, Round: 2}, {Is: 2, Round: 4}},
		},
	})
	// What is known is a matter of the day of knowing, also of the facts of the dovecote itself.
	c.Code.Facts = []api.Fact{{Claim: yes("fast"), Days: span(0, 730), Known: 9}}
	for line, want := range map[string]int{"right alms 7 8": 1, "right alms 7 9": 2, "right not fast 7 9": 2, "right take 7 9": 1, "right alms 5 5": 2, "right alms 5 3": 1} {
		if got := told(t, c, l, line); got.Stand.Is != want || got.Err != api.OK {
			t.Errorf("P10.7: %s: %+v, want %d", line, got.Stand, want)
		}
	}
}

// generous returns a dovecote with rules that give birds to so many, of which the last ones are alike.
func generous(n int, birds ...int) api.Cote {
	return changed(func(c *api.Cote) {
		c.Code = api.Code{}
		for i := range n {
			who := "w" + string(rune('a'+i))
			r := api.Rule{Name: who, Says: yes("alms"), Days: span(i%2, 9)}
			for _, b := range birds {
				r.Gifts = append(r.Gifts, api.Gift{Who: who, Birds: b})
			}
			c.Code.Rules = append(c.Code.Rules, r)
		}
	})
}

func TestDue(t *testing.T) {
	owed := func(n ...int) []api.Owed {
		var l []api.Owed
		for i, birds := range n {
			l = append(l, api.Owed{Who: "w" + string(rune('a'+i)), Birds: birds})
		}
		return l
	}
	for _, x := range []struct {
		c    api.Cote
		line string
		want api.Told
	}{
		{generous(0), "due 3 1 0", api.Told{Left: 3}},
		{generous(3, 2), "due 5 1 0", api.Told{Owed: owed(2, 2, 1)}},
		{generous(3, 2), "due 500 1 0", api.Told{Owed: owed(2, 2, 2), Left: 494}},
		{generous(3, 2), "due 3 1 0", api.Told{Owed: owed(2, 1, 0)}},
		{generous(3, 2), "due 3 10 0", api.Told{Left: 3}},
		{generous(3, 2, 3), "due 0 1 0", api.Told{Owed: owed(0, 0, 0)}},
		{generous(3, 2, 3), "due 11 9 730", api.Told{Owed: owed(5, 5, 1)}},
		{generous(2, 9999, 9999), "due 500 1 0", api.Told{Owed: owed(500, 0)}},
		{generous(2, 250, 250), "due 500 1 0", api.Told{Owed: owed(500, 0)}},
		{generous(2, 250, 249), "due 500 1 0", api.Told{Owed: owed(499, 1)}},
		{generous(1, 250, 251), "due 499 1 0", api.Told{Owed: owed(499)}},
	} {
		if got := told(t, x.c, nil, x.line); !alike(got, x.want) {
			t.Errorf("P10.7: %s: %+v, want %+v", x.line, got, x.want)
		}
	}
	if got := told(t, generous(20, 9), nil, "due 500 1 0"); got.Err != api.OK || len(got.Owed) != 20 || got.Left != 320 {
		t.Errorf("P10.7: 20 gifts: %+v", got)
	}
	for n := 21; n <= 26; n++ {
		if got := told(t, generous(n, 9), nil, "due 500 1 0"); !alike(got, api.Told{Err: api.ErrLimit}) {
			t.Errorf("P10.7: %d gifts: %+v", n, got)
		}
	}
	if got := told(t, generous(24, 9), nil, "due 500 0 0"); got.Err != api.OK || len(got.Owed) != 12 {
		t.Errorf("P10.7: 24 gifts, half of them in force: %+v", got)
	}
	if got := told(t, generous(26), nil, "due 500 1 0"); !alike(got, api.Told{Left: 500}) {
		t.Errorf("P10.7: 26 rules that give nothing: %+v", got)
	}
}

// TestDueIsGiven holds what is due against what the granted rights give.
func TestDueIsGiven(t *testing.T) {
	d := dice(10)
	some := 0
	for range 1500 {
		c := d.cote()
		l := d.deeds(c, 20)
		q := api.Act{Kind: api.AcDue, A: one(&d, d.roll(20), d.roll(501)), B: d.roll(13), Known: d.roll(13)}
		got := house.Answer(c, l, q)
		sure, _, e := right.Gifts(codeOf(c, l, q.Known), q.B, q.Known)
		if got.Err != api.OK || e != api.OK || len(got.Owed) != len(sure) {
			t.Fatalf("P10.14: %+v: %+v, of %v, error %d", q, got, sure, e)
		}
		sum := got.Left
		for i, o := range got.Owed {
			sum += o.Birds
			if o.Who != sure[i].Who || o.Birds < 0 || o.Birds > sure[i].Birds {
				t.Errorf("P10.14: %+v: %+v, of %v", q, got, sure)
			}
			if got.Left > 0 && o.Birds < min(sure[i].Birds, 500) {
				t.Errorf("P10.14: %+v: %+v, of %v, though birds are left", q, got, sure)
			}
		}
		if sum != q.A || got.Left < 0 {
			t.Errorf("P10.14: %+v: %+v are not as many birds", q, got)
		}
		if len(got.Owed) > 1 && got.Owed[1].Birds > 0 {
			some++
		}
	}
	if some < 100 {
		t.Error("too few birds are due:", some)
	}
}

// reaches says whether all holes are reached from stands.
func reaches(h api.House, holes, stands []int) bool {
	for _, hole := range holes {
		if !slices.ContainsFunc(stands, func(s int) bool {
			for n := -h.Back; n <= h.Fore; n++ {
				if ((s+n)%h.Columns+h.Columns)%h.Columns == hole%h.Columns {
					return true
				}
			}
			return false
		}) {
			return false
		}
	}
	return true
}

// fewest returns the fewest open stands from which all holes are reached, of all stands; less than 0 if there are none.
func fewest(h api.House, holes []int) int {
	best := -1
	for set := range 1 << h.Columns {
		var stands []int
		for s := range h.Columns {
			if set>>s&1 == 1 && !slices.Contains(h.Closed, s) {
				stands = append(stands, s)
			}
		}
		if (best < 0 || len(stands) < best) && reaches(h, holes, stands) {
			best = len(stands)
		}
	}
	return best
}

// TestRounds holds rounds against all sets of stands.
func TestRounds(t *testing.T) {
	d := dice(11)
	sizes := map[int]int{}
	for range 500 {
		c := d.cote()
		l := d.deeds(c, 25)
		q := api.Act{Kind: api.AcRound, A: d.roll(c.Last + 1), Known: d.roll(13)}
		got, holes := house.Answer(c, l, q), holesOf(c, l, q.A, q.Known)
		n := fewest(c.House, holes)
		sizes[n]++
		if n < 0 {
			if got.Err != api.ErrNone {
				t.Errorf("P10.15: %+v: %+v, though there is no round", q, got)
			}
			continue
		}
		if got.Err != api.OK || len(got.Round.Stands) != n || !reaches(c.House, holes, got.Round.Stands) {
			t.Errorf("P10.15: %+v: %+v, want %d stands", q, got, n)
		}
		for _, s := range got.Round.Stands {
			if slices.Contains(c.House.Closed, s) || s < 0 || s >= c.House.Columns {
				t.Errorf("P10.15: %+v: %d is no open stand", q, s)
			}
		}
		fails(t, "P10.15: CheckFewest", round.CheckFewest(c.House, holes, got.Round), api.OK)
	}
	if sizes[-1] < 20 || sizes[0] < 20 || sizes[1] < 50 || sizes[2] < 20 {
		t.Error("the rounds are too much alike:", sizes)
	}
}

// TestKnown asks the same of books in which other things came to be known later, in another order, or were withdrawn.
func TestKnown(t *testing.T) {
	d := dice(12)
	withdrawn := 0
	for range 500 {
		c := d.cote()
		l := d.deeds(c, 30)
		known := d.roll(11)
		var still, stand []api.Deed
		for _, x := range l {
			if x.Known <= known {
				still = append(still, x)
			}
			if stands(l, x, known) {
				stand = append(stand, x)
			}
		}
		later := with(still)
		for id := 101; len(later) < 40 && d.roll(10) > 0; id++ {
			x := d.deed(c, id, 30)
			x.Known = known + 1 + d.roll(9)
			later = append(later, x)
		}
		for range 8 {
			q := d.question(c)
			if q.Kind == api.AcRound || q.Kind > api.AcBirds || d.roll(2) == 0 {
				q.Known = known
			}
			want := house.Answer(c, l, q)
			if q.Known > known {
				continue
			}
			same := map[string][]api.Deed{
				"without what comes to be known later": still, "with other things that come to be known later": later, "in another order": shuffled(&d, l),
			}
			if q.Known == known {
				same["without what is withdrawn, and what withdraws it"] = shuffled(&d, stand)
				withdrawn += len(still) - len(stand)
			}
			for what, other := range same {
				if got := house.Answer(c, other, q); !alike(got, want) {
					t.Fatalf("P10.10: %+v of %+v %s: %+v, want %+v", q, l, what, got, want)
				}
			}
		}
	}
	if withdrawn < 1000 {
		t.Error("too little is withdrawn:", withdrawn)
	}
}
