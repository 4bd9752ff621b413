package right_test

import (
	"slices"
	"testing"

	"potence/api"
	"potence/right"
)

// gives reports a code whose gifts are not those that are wanted.
func gives(t *testing.T, what string, c api.Code, day, known int, sure, possible []api.Gift) {
	t.Helper()
	a, b, e := right.Gifts(c, day, known)
	if e != api.OK || !slices.Equal(a, sure) || !slices.Equal(b, possible) {
		t.Errorf("P6.5: Gifts: %s: %v, %v, error %d, want %v, %v", what, a, b, e, sure, possible)
	}
}

func TestGifts(t *testing.T) {
	gives(t, "example", example(), 45, 60, []api.Gift{{Who: "poor", Birds: 2}, {Who: "widow", Birds: 2}},
		[]api.Gift{{Who: "east", Birds: 1}, {Who: "poor", Birds: 2}, {Who: "west", Birds: 1}, {Who: "widow", Birds: 2}})
	gives(t, "example", example(), 41, 60, []api.Gift{{Who: "lord", Birds: 4}}, []api.Gift{{Who: "east", Birds: 1}, {Who: "lord", Birds: 4}, {Who: "west", Birds: 1}})
	gives(t, "no rules in force", example(), 101, 60, nil, nil)
	gives(t, "nothing", api.Code{}, 0, 0, nil, nil)
	c := parsed(t, "rule n says a rank 1 days 0 to 9 gives w 9999 gives v 1 gives w 9999;rule o says b rank 1 days 0 to 9 gives w 1;"+
		"rule p says c if c rank 1 days 0 to 9 gives v 5 gives u 1; rule q says d if e rank 1 days 0 to 9 gives v 100;")
	gives(t, "sums", c, 5, 5, []api.Gift{{Who: "v", Birds: 1}, {Who: "w", Birds: 19999}}, []api.Gift{{Who: "u", Birds: 1}, {Who: "v", Birds: 6}, {Who: "w", Birds: 19999}})
}

func TestGiftsAgainstAPlainReading(t *testing.T) {
	d := dice(15)
	for range 2000 {
		c, day, known := d.code(), d.roll(9), d.roll(9)
		gives(t, "some code", c, day, known, giftsOf(c, day, known, api.Granted), giftsOf(c, day, known, api.Granted, api.Open))
		sure, possible, _ := right.Gifts(c, day, known)
		for _, g := range sure {
			if !slices.ContainsFunc(possible, func(p api.Gift) bool { return p.Who == g.Who && p.Birds >= g.Birds }) {
				t.Fatalf("P6.15: %v is given surely, but not possibly: %v", g, possible)
			}
		}
		v, _ := right.Judge(c, day, known)
		if !slices.Contains(slices.Concat(v.Yes, v.No, v.Rules), open) && !slices.Equal(sure, possible) {
			t.Fatalf("P6.15: nothing is open in %v, but what is given is %v or %v", c, sure, possible)
		}
	}
}

func TestDisputed(t *testing.T) {
	l, e := right.Disputed(example(), 41, 60)
	same(t, "P6.5: Disputed", l, e, 5, 6)
	l, e = right.Disputed(example(), 101, 60)
	same(t, "P6.5: Disputed: no rules in force", l, e)
	l, e = right.Disputed(api.Code{}, 0, 0)
	same(t, "P6.5: Disputed: nothing", l, e)
	c := parsed(t, "fact f days 0 to 9 known 0; rule ra says a if f unless a rank 1 days 0 to 9; rule rb says b if f, a rank 1 days 0 to 9; rule rc says c if f rank 1 days 0 to 9;")
	l, e = right.Disputed(c, 5, 5)
	same(t, "P6.5: Disputed: conditions", l, e, 0)
	d := dice(16)
	for range 1000 {
		c, day, known := d.code(), d.roll(9), d.roll(9)
		b := lastRound(c, day, known)
		var want []int
		for i, r := range c.Rules {
			if b.rules[i] == open && b.all(r.If, api.Granted) {
				want = append(want, i)
			}
		}
		l, e := right.Disputed(c, day, known)
		same(t, "P6.5: Disputed", l, e, want...)
	}
}
