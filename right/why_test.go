package right_test

import (
	"slices"
	"testing"

	"potence/api"
	"potence/right"
)

func TestWhyOfTheExample(t *testing.T) {
	l, e := right.Why(example(), 45, 60, yes("alms"))
	same(t, "P6.4: Why of alms", l, e, 2)
	l, e = right.Why(example(), 45, 60, no("take"))
	same(t, "P6.4: Why of not take", l, e, 1)
	l, e = right.Why(example(), 41, 60, yes("take"))
	same(t, "P6.4: Why of take", l, e, 0)
	l, e = right.Why(example(), 45, 60, yes("fast"))
	same(t, "P6.4: Why of what is given", l, e)
	for _, x := range []api.Claim{yes("take"), no("alms"), yes("ring"), yes("open"), no("open"), no("fast")} {
		l, e = right.Why(example(), 45, 60, x)
		if e != api.ErrNone || len(l) != 0 {
			t.Errorf("P6.4: Why of %v: %v, error %d", x, l, e)
		}
	}
}

func TestWhy(t *testing.T) {
	const a = " rank 1 days 0 to 9;"
	for _, x := range []struct {
		what, source string
		want         []int
	}{
		{"the least round", "rule r says x if y" + a + "rule s says y" + a + "rule u says x" + a, []int{2}},
		{"the least index", "rule r says x if y" + a + "rule s says x" + a + "rule u says x" + a + "rule v says y" + a, []int{1}},
		{"a rule that is not in force", "rule r says x rank 1 days 0 to 4; rule s says x" + a, []int{1}},
		{"a rule that is denied earlier", "rule r says x if y" + a + "rule s says x if z" + a + "rule u says z if w" + a + "rule v says w" + a, []int{3, 2, 1}},
		{"a rule that is open", "rule r says x if x, y" + a + "rule s says y if y" + a + "rule u says x" + a, []int{2}},
		{"the order of rounds", "rule r says x if y, z" + a + "rule s says y if z" + a + "rule u says z" + a, []int{2, 1, 0}},
		{"the order of indices", "rule r says x if y, z" + a + "rule s says z" + a + "rule u says y" + a, []int{1, 2, 0}},
		{"each one once", "rule r says x if y, z" + a + "rule s says y if w" + a + "rule u says z if w" + a + "rule v says w" + a, []int{3, 1, 2, 0}},
		{"a condition that is given", "fact y days 5 to 5 known 5; rule r says x if y" + a + "rule s says y" + a, []int{0}},
		{"a claim that is given", "fact x days 5 to 5 known 5; rule r says x" + a, nil},
		{"a condition that is not so", "rule r says x if not y" + a + "rule s says not y" + a, []int{1, 0}},
		{"an exception", "rule r says x unless not y" + a + "rule s says y" + a, []int{0}},
	} {
		c := parsed(t, x.source)
		l, e := right.Why(c, 5, 5, yes("x"))
		same(t, "P6.4: Why: "+x.what, l, e, x.want...)
		fails(t, "P6.12: CheckWhy: "+x.what, right.CheckWhy(c, 5, 5, yes("x"), l), api.OK)
	}
	l, e := right.Why(chain(), 0, 0, chain().Rules[29].Says)
	if e != api.OK || len(l) != 30 || !slices.IsSorted(l) {
		t.Error("P6.4: Why of the end of a chain:", l, e)
	}
}

// lessOne returns the lists that a list becomes by leaving out an element, and by having one twice.
func lessOne(l []int) [][]int {
	var all [][]int
	for i := range l {
		all = append(all, slices.Delete(slices.Clone(l), i, i+1), slices.Insert(slices.Clone(l), i, l[i]), append(slices.Clone(l), l[i]))
	}
	return all
}

func TestWhyAgainstAPlainReading(t *testing.T) {
	d, most := dice(13), 0
	for n := range 600 {
		c, day, known := d.code(), d.roll(9), d.roll(9)
		if n%2 == 0 {
			c = d.steep()
		}
		b := lastRound(c, day, known)
		for _, x := range claimsOf(c) {
			l, e := right.Why(c, day, known, x)
			if b.claims[x].Is != api.Granted {
				if e != api.ErrNone || len(l) > 0 {
					t.Fatalf("P6.4: Why of %v, which is not granted in %v: %v, error %d", x, c, l, e)
				}
				continue
			}
			same(t, "P6.4: Why", l, e, whyOf(b, c, day, known, x)...)
			fails(t, "P6.12: CheckWhy of Why", right.CheckWhy(c, day, known, x, l), api.OK)
			most = max(most, len(l))
			for _, n := range append(lessOne(l), nil) {
				want := api.ErrProof
				if isWhy(b, c, day, known, x, n) {
					want = api.OK
				}
				fails(t, "P6.4: CheckWhy", right.CheckWhy(c, day, known, x, n), want)
			}
		}
	}
	if most < 6 {
		t.Error("P6.4: the longest explanation:", most)
	}
}

func TestCheckWhyOfAnyRules(t *testing.T) {
	d, accepted := dice(14), 0
	for n := range 1200 {
		c, day, known := d.code(), d.roll(9), d.roll(9)
		if n%2 == 0 {
			c = d.steep()
		}
		if len(c.Rules) == 0 {
			continue
		}
		v, _ := right.Judge(c, day, known)
		var l []int
		for i, s := range v.Rules {
			if s.Is == api.Granted || d.roll(20) == 0 {
				l = append(l, i)
			}
		}
		shuffle(&d, l)
		l = l[:d.roll(len(l)+1)]
		b := lastRound(c, day, known)
		for _, x := range claimsOf(c) {
			e, want := right.CheckWhy(c, day, known, x, l), isWhy(b, c, day, known, x, l)
			if want && e != api.OK || !want && e != api.ErrProof {
				t.Fatalf("P6.4: CheckWhy of %v for %v in %v: error %d", l, x, c, e)
			}
			if e == api.OK {
				accepted++
				if s, _ := right.Is(c, day, known, x); s.Is != api.Granted {
					t.Fatalf("P6.12: %v is %v in %v, but CheckWhy accepts %v", x, s, c, l)
				}
			}
		}
	}
	if accepted < 300 {
		t.Error("P6.12: CheckWhy has accepted too few:", accepted)
	}
}

func TestCheckWhy(t *testing.T) {
	c := parsed(t, "fact f days 0 to 9 known 0; rule ra says x if y, f rank 1 days 0 to 9; rule rb says y rank 1 days 0 to 9; rule rc says x rank 1 days 0 to 9;"+
		"rule rd says z if not f rank 1 days 0 to 9; rule re says w rank 1 days 9 to 9; rule rf says v rank 1 days 0 to 9; rule rg says not v rank 1 days 0 to 9;")
	for _, x := range []struct {
		claim api.Claim
		rules []int
		want  api.Errno
	}{
		{yes("x"), []int{1, 0}, api.OK}, {yes("x"), []int{2}, api.OK}, {yes("x"), []int{2, 1, 0}, api.OK}, {yes("x"), []int{1, 2}, api.OK},
		{yes("x"), []int{0}, api.ErrProof}, {yes("x"), []int{0, 1}, api.ErrProof}, {yes("x"), []int{2, 1}, api.ErrProof}, {yes("x"), nil, api.ErrProof},
		{yes("x"), []int{1, 1, 0}, api.ErrProof}, {yes("x"), []int{2, 2}, api.ErrProof}, {no("x"), []int{2}, api.ErrProof},
		{yes("f"), nil, api.OK}, {yes("f"), []int{1}, api.OK}, {yes("f"), []int{0}, api.ErrProof}, {yes("f"), []int{3}, api.ErrProof}, {no("f"), nil, api.ErrProof},
		{yes("z"), []int{3}, api.ErrProof}, {yes("w"), []int{4}, api.ErrProof}, {yes("v"), []int{5}, api.ErrProof}, {yes("v"), []int{6}, api.ErrProof},
		{yes("x"), make([]int, 60), api.ErrProof}, {yes("x"), make([]int, 61), api.ErrLimit}, {yes("f"), make([]int, 61), api.ErrLimit},
		{yes("q"), make([]int, 61), api.ErrNone}, {yes("q"), append(make([]int, 61), 7), api.ErrArg}, {yes("q"), []int{-1}, api.ErrArg}, {yes("q"), nil, api.ErrNone},
	} {
		fails(t, "P6.4: CheckWhy", right.CheckWhy(c, 5, 5, x.claim, x.rules), x.want)
	}
	fails(t, "P6.4: CheckWhy of a day that is none", right.CheckWhy(c, 731, 5, yes("q"), []int{-1}), api.ErrArg)
}
