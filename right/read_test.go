package right_test

import (
	"reflect"
	"slices"
	"strings"
	"testing"

	"potence/api"
	"potence/right"
)

// sameCode says whether two codes are the same, be their empty lists nil or not.
func sameCode(a, b api.Code) bool { return reflect.DeepEqual(tidy(a), tidy(b)) }

// tidy returns a code whose empty lists are nil.
func tidy(c api.Code) api.Code {
	n := api.Code{Facts: append([]api.Fact(nil), c.Facts...), Rules: append([]api.Rule(nil), c.Rules...)}
	for i := range n.Rules {
		r := &n.Rules[i]
		r.If, r.Unless = append([]api.Claim(nil), r.If...), append([]api.Claim(nil), r.Unless...)
		r.Gifts = append([]api.Gift(nil), r.Gifts...)
	}
	return n
}

// parses reports a source of which Parse does not return a code.
func parses(t *testing.T, what, text string, want api.Code) {
	t.Helper()
	c, e, at := right.Parse(text)
	if e != api.OK || at != 0 || !sameCode(c, want) {
		t.Errorf("%s: %q: %v, error %d at %d, want %v", what, text, c, e, at, want)
	}
}

// refuses reports a source of which Parse does not return an error and an index.
func refuses(t *testing.T, what, text string, want api.Errno, index int) {
	t.Helper()
	c, e, at := right.Parse(text)
	if e != want || at != index || !isZero(c) {
		t.Errorf("%s: %q: %v, error %d at %d, want %d at %d", what, text, c, e, at, want, index)
	}
}

func TestParse(t *testing.T) {
	parses(t, "P6.1: the example", exampleText, example())
	parses(t, "P6.1: nothing", "", api.Code{})
	parses(t, "P6.1: blanks", " \t\n\n ", api.Code{})
	fact := api.Code{Facts: []api.Fact{{Claim: no("a"), Days: span(0, 730), Known: 10}}}
	parses(t, "P6.1: a fact", "fact not a days 0 to 730 known 10;", fact)
	parses(t, "P6.1: a fact", "\n\tfact  not\na\tdays\n0 to 730 known 10 ; \n", fact)
	rule := api.Code{Rules: []api.Rule{{
		Name: "n", Says: no("a"), If: []api.Claim{yes("b"), no("c")}, Unless: []api.Claim{no("b"), yes("d")}, Rank: 99, Days: span(1, 1),
		Gifts: []api.Gift{{Who: "w", Birds: 9999}, {Who: "w", Birds: 1}},
	}}}
	parses(t, "P6.1: a rule", "rule n says not a if b,not c unless not b , d rank 99 days 1 to 1 gives w 9999 gives w 1;", rule)
	both := api.Code{Facts: append(fact.Facts, fact.Facts...), Rules: rule.Rules}
	text := "fact not a days 0 to 730 known 10;"
	parses(t, "P6.1: facts about a rule", text+"rule n says not a if b,not c unless not b,d rank 99 days 1 to 1 gives w 9999 gives w 1;"+text, both)
	least := api.Code{Rules: []api.Rule{{Name: long(0), Says: yes(long(1)), Days: span(0, 0)}}}
	parses(t, "P6.1: the least rule", "rule "+long(0)+" says "+long(1)+" rank 0 days 0 to 0;", least)
	only := api.Code{Rules: []api.Rule{{Name: "n", Says: yes("a"), Unless: []api.Claim{yes("a")}, Days: span(0, 0)}}}
	parses(t, "P6.1: just an exception", "rule n says a unless a rank 0 days 0 to 0;", only)
}

func TestTokens(t *testing.T) {
	fact := "fact a days 0 to 1 known 2;"
	for _, x := range []struct {
		text string
		at   int
	}{
		{"fact A days", 5}, {"fact aA days", 6}, {"fact a1 days 0 to 1 known 2;", 6}, {"fact a days 00 to 1", 13}, {"fact a days 01 to 1", 13},
		{"fact a days 0a to 1", 13}, {"fact a days 0to 1 known 2;", 13}, {"fact a days 12to 1 known 2;", 14}, {"fact a days 10000 to 1", 12},
		{"fact a days 99999999999999999999999999999999999999a", 12}, {"fact a days -1 to 1", 12}, {"fact a days 1.5", 13}, {"fact a days +1", 12},
		{fact + "\r", len(fact)}, {fact + "#", len(fact)}, {fact + "\x00", len(fact)}, {fact + "\xff", len(fact)}, {fact + "é", len(fact)},
		{"fact " + strings.Repeat("a", 25), 5}, {"fact " + strings.Repeat("a", 25) + "1", 5}, {"fact " + strings.Repeat("a", 24) + "1", 29},
		{"fact " + strings.Repeat("a", 25) + "A", 5}, {"fact " + strings.Repeat("a", 24) + "B", 29},
		{strings.Repeat("a", 5000), 0}, {strings.Repeat("9", 5000), 0}, {"[", 0}, {"`", 0}, {"{", 0}, {"/", 0}, {":", 0}, {"@", 0},
		{"known1", 5}, {"1known", 1}, {"9999known", 4}, {"10000known", 0}, {"0,0;00", 5}, {"a,b;c1", 5},
	} {
		refuses(t, "P6.1: no token", x.text, api.ErrForm, x.at)
		refuses(t, "P6.1: no token behind what is no source", "; "+x.text, api.ErrForm, x.at+2)
		refuses(t, "P6.1: no token behind a code that is not formed", "fact a days 9 to 1 known 1;"+x.text, api.ErrForm, x.at+27)
	}
}

func TestGrammar(t *testing.T) {
	for _, x := range []struct {
		text string
		at   int
	}{
		{"fact", 4}, {"fact ", 5}, {"fact  \n", 7}, {"fact a days 0 to 1 known 2", 26}, {"fact a days 0 to 1 known 2 ", 27}, {"rule", 4},
		{";", 0}, {" 5", 1}, {"name", 0}, {"says", 0}, {"fact ;", 5}, {"fact not not a", 9}, {"fact fact", 5}, {"fact rule", 5}, {"fact to", 5},
		{"fact a, b days", 6}, {"fact a known", 7}, {"fact a days to", 12}, {"fact a days 1 2", 14}, {"fact a days 1 to 2;", 18}, {"fact a days 1 to 2 known ;", 25},
		{"fact a days 1 to 2 known 3 rule", 27}, {"fact a days 1 to 2 known 3;;", 27}, {"fact 5 days", 5},
		{"rule not", 5}, {"rule n says if", 12}, {"rule n says a, b", 13}, {"rule n says a if rank", 17}, {"rule n says a if b c", 19}, {"rule n says a if b,", 19},
		{"rule n says a if b, unless", 20}, {"rule n says a if b if", 19}, {"rule n says a unless b unless", 23}, {"rule n says a unless b if", 23},
		{"rule n says a rank 5 gives", 21}, {"rule n says a rank 5, days", 20}, {"rule n says a rank 5 days 1 to 2 gives 5", 39},
		{"rule n says a rank 5 days 1 to 2 gives w", 40}, {"rule n says a rank 5 days 1 to 2 gives w w", 41}, {"rule n says a rank 5 days 1 to 2 gives w 1 w", 43},
		{"rule n says a rank 5 days 1 to 2 gives not 1", 39}, {"rule n says a rank 5 days 1 to 2 known 3", 33}, {"rule n says a rank r", 19},
		{"rule n says a rank 5 days 1 to 2", 32}, {"rule n a", 7}, {"rules n says a", 0}, {"fact a day 1", 7},
	} {
		refuses(t, "P6.1: no source", x.text, api.ErrForm, x.at)
		refuses(t, "P6.1: no source behind a code that is not formed", "fact a days 9 to 1 known 1;"+x.text, api.ErrForm, x.at+27)
	}
}

// TestBrokenSources holds Parse against the grammar as a regular expression, in sources in which a token is another one, or missing, or behind which the source ends.
func TestBrokenSources(t *testing.T) {
	tokens := strings.Fields(strings.NewReplacer(",", " ,", ";", " ;").Replace(
		"fact not a days 40 to 46 known 0 ; rule n says not b if c, not d unless not e, f rank 5 days 0 to 100 gives g 4 gives h 1 ; rule m says b rank 1 days 1 to 2 ;"))
	kinds := append(strings.Split(reserved, "|"), "name", "7", ",", ";")
	for i := range tokens {
		try := func(now ...string) {
			heldAgainst(t, strings.Join(slices.Concat(tokens[:i], now, tokens[i+1:]), " "))
		}
		heldAgainst(t, strings.Join(tokens[:i], " "))
		heldAgainst(t, strings.Join(tokens[:i], " ")+" \n")
		try()
		for _, k := range kinds {
			try(k)
			try(k, tokens[i])
		}
	}
}

// heldAgainst reports a source that Parse refuses elsewhere than a plain reading, or takes where that does not.
func heldAgainst(t *testing.T, text string) {
	t.Helper()
	_, e, at := right.Parse(text)
	want := wrongAt(text)
	if want >= 0 && (e != api.ErrForm || at != want) {
		t.Errorf("P6.1: %q: error %d at %d, want %d at %d", text, e, at, api.ErrForm, want)
	}
	if want < 0 && at != 0 {
		t.Errorf("P6.1: %q: error %d at %d", text, e, at)
	}
}

// TestAnyBytes holds Parse against a plain reading of short texts of some bytes.
func TestAnyBytes(t *testing.T) {
	d := dice(5)
	for range 20000 {
		text := []string{"", "fact a days 0 to 1 known 2;", "rule n says a if "}[d.roll(3)]
		for range d.roll(7) {
			text += []string{"a", "z", " ", "0", "1", "9", "99", ",", ";", "not", "\n", "\t", "A", "-", "rank", strings.Repeat("b", 23)}[d.roll(16)]
		}
		heldAgainst(t, text)
	}
}

func TestErrorsOfParse(t *testing.T) {
	fact, rule := "fact a days 0 to 1 known 2;\n", "says a rank 0 days 0 to 0;\n"
	long := strings.Repeat(" ", 6000)
	parses(t, "P6.1: 6000 bytes", long, api.Code{})
	parses(t, "P6.1: 6000 bytes", exampleText+long[len(exampleText):], example())
	refuses(t, "P6.1: 6001 bytes", long+" ", api.ErrLimit, 0)
	refuses(t, "P6.1: 6001 bytes, and no token", "?"+long, api.ErrLimit, 0)
	refuses(t, "P6.1: 6001 bytes, and no source", ";"+long, api.ErrLimit, 0)
	names := ""
	for i := range 31 {
		names += "rule n" + string(rune('a'+i%26)) + strings.Repeat("x", i/26) + " " + rule
	}
	refuses(t, "P6.1: 31 facts", strings.Repeat(fact, 31), api.ErrLimit, 0)
	refuses(t, "P6.1: 31 rules", names, api.ErrLimit, 0)
	refuses(t, "P6.1: 31 facts, then no source", strings.Repeat(fact, 31)+"fact", api.ErrForm, 31*28+4)
	refuses(t, "P6.1: two rules of one name", "rule n "+rule+"rule n "+rule, api.ErrTwice, 0)
	refuses(t, "P6.1: two rules of one name, then no token", "rule n "+rule+"rule n "+rule+"?", api.ErrForm, 2*(7+len(rule)))
	for _, text := range []string{
		"fact a days 1 to 0 known 0;", "fact a days 0 to 731 known 0;", "fact a days 0 to 1 known 731;", "fact a days 731 to 9999 known 9999;",
		"rule n says a rank 100 days 0 to 0;", "rule n says a rank 0 days 2 to 1;", "rule n says a rank 0 days 0 to 731;",
		"rule n says a if b, b rank 0 days 0 to 0;", "rule n says a unless not b, c, not b rank 0 days 0 to 0;",
		"rule n says a if b, c, d, e, f rank 0 days 0 to 0;", "rule n says a unless b, c, d, e, f rank 0 days 0 to 0;",
		"rule n says a rank 0 days 0 to 0 gives w 0;", "rule n " + strings.Replace(rule, ";", " gives a 1 gives b 1 gives c 1 gives d 1 gives e 1;", 1),
		"rule n says a rank 9999 days 0 to 0; rule n says a rank 0 days 0 to 0;",
	} {
		refuses(t, "P6.1: a code that is not formed", text, api.ErrForm, 0)
	}
}

func TestPrint(t *testing.T) {
	text, e := right.Print(example())
	if e != api.OK || text != exampleText {
		t.Errorf("P6.1: Print of the example: %q, error %d", text, e)
	}
	for _, x := range []struct {
		c    api.Code
		want string
	}{
		{api.Code{}, ""},
		{api.Code{Facts: []api.Fact{{Claim: no("a"), Days: span(0, 730), Known: 10}}}, "fact not a days 0 to 730 known 10;\n"},
		{api.Code{Rules: []api.Rule{{Name: "n", Says: no("a"), Rank: 99}}}, "rule n says not a rank 99 days 0 to 0;\n"},
		{api.Code{
			Facts: []api.Fact{{Claim: yes("b")}, {Claim: yes("b")}},
			Rules: []api.Rule{{
				Name: "m", Says: yes("a"), If: []api.Claim{no("b"), yes("c")}, Unless: []api.Claim{yes("d"), no("a"), yes("b")}, Days: span(1, 2),
				Gifts: []api.Gift{{Who: "w", Birds: 9999}, {Who: "v", Birds: 1}},
			}},
		}, "fact b days 0 to 0 known 0;\nfact b days 0 to 0 known 0;\nrule m says a if not b, c unless d, not a, b rank 0 days 1 to 2 gives w 9999 gives v 1;\n"},
	} {
		if text, e := right.Print(x.c); e != api.OK || text != x.want {
			t.Errorf("P6.1: Print: %q, error %d, want %q", text, e, x.want)
		}
	}
}

func TestTextsComeBack(t *testing.T) {
	d := dice(6)
	all := append(rightCodes(), chain())
	for range 500 {
		all = append(all, d.code())
	}
	for _, c := range all {
		text, e := right.Print(c)
		fails(t, "P6.9: Print", e, api.OK)
		if len(text) > 6000 {
			refuses(t, "P6.1: a longer text", text, api.ErrLimit, 0)
			continue
		}
		parses(t, "P6.9: Parse of Print", text, c)
		loose := strings.NewReplacer(" ", "\n \t", ",", " ,", ";\n", ";").Replace(text)
		if len(loose) > 6000 {
			continue
		}
		parses(t, "P6.9: with other blanks", loose, c)
		taken, _, _ := right.Parse(loose)
		if again, _ := right.Print(taken); again != text {
			t.Errorf("P6.9: Print of what Parse takes: %q, want %q", again, text)
		}
	}
}
