package house_test

import (
	"math"
	"regexp"
	"slices"
	"strconv"
	"strings"
	"testing"

	"potence/api"
	"potence/house"
)

// deedAct returns the act that writes a deed.
func deedAct(d api.Deed) api.Act { return api.Act{Kind: api.AcDeed, Deed: d} }

// spelt is an act with its line.
type spelt struct {
	line string
	a    api.Act
}

// speltActs returns acts of all kinds with their lines.
func speltActs() []spelt {
	eggs := peep(11, 0, 5, 3, false)
	eggs.Peep.Numbers = [3]api.Span{span(1, 2), span(0, 9), span(3, 3)}
	long := "aaaabbbbccccddddeeeeffff"
	return []spelt{
		{"day 0", api.Act{Kind: api.AcDay}},
		{"day 730", api.Act{Kind: api.AcDay, A: 730}},
		{"round 7 10", api.Act{Kind: api.AcRound, A: 7, Known: 10}},
		{"nest 1919 2 730 9", api.Act{Kind: api.AcNest, A: 1919, B: 2, C: 730, Known: 9}},
		{"nest 5 0 4 0", api.Act{Kind: api.AcNest, A: 5, C: 4}},
		{"clash 1919 730", api.Act{Kind: api.AcClash, A: 1919, Known: 730}},
		{"birds 100", api.Act{Kind: api.AcBirds, Known: 100}},
		{"right alms 3 4", api.Act{Kind: api.AcRight, Claim: yes("alms"), A: 3, Known: 4}},
		{"right not day 30 40", api.Act{Kind: api.AcRight, Claim: no("day"), A: 30, Known: 40}},
		{"right " + long + " 0 0", api.Act{Kind: api.AcRight, Claim: yes(long)}},
		{"taking 500 730 1", api.Act{Kind: api.AcTaking, A: 500, B: 730, Known: 1}},
		{"due 2 3 4", api.Act{Kind: api.AcDue, A: 2, B: 3, Known: 4}},
		{"peep 11 5 3 1 2 0 9 3 3", deedAct(eggs)},
		{"peep 1048576 1919 730 0 9 0 9 0 9", deedAct(peep(1<<20, 0, 1919, 730, false))},
		{"take 13 5 11", deedAct(take(13, 0, 5, 11))},
		{"seen 21 3 5 1 2 0 9", deedAct(sight(21, 0, 3, 5, 1, 2, 0, 9))},
		{"fact 31 fast 2 6", deedAct(fact(31, 0, yes("fast"), 2, 6))},
		{"fact 1 not peep 0 730", deedAct(fact(1, 0, no("peep"), 0, 730))},
		{"back 32 1048576", deedAct(back(32, 0, 1<<20))},
	}
}

func TestPrint(t *testing.T) {
	text, acts := "", []api.Act{}
	for _, x := range speltActs() {
		got, e := house.Print([]api.Act{x.a})
		is(t, "P10.4: Print", got, e, x.line+"\n")
		text, acts = text+x.line+"\n", append(acts, x.a)
	}
	got, e := house.Print(acts)
	is(t, "P10.4: Print of all", got, e, text)
	got, e = house.Print(nil)
	is(t, "P10.4: Print of nothing", got, e, "")
	many := slices.Repeat([]api.Act{{Kind: api.AcBirds, Known: 3}}, 71)
	got, e = house.Print(many[:70])
	is(t, "P10.4: Print of 70 acts", got, e, strings.Repeat("birds 3\n", 70))
	got, e = house.Print(many)
	failsEmpty(t, "P10.4: Print of 71 acts", got, e, api.ErrLimit)
	got, e = house.Print(make([]api.Act, 71))
	failsEmpty(t, "P10.4: Print of 71 acts that are none", got, e, api.ErrLimit)
	got, e = house.Print(append(many[:69:69], api.Act{}))
	failsEmpty(t, "P10.4: Print with an act that is none", got, e, api.ErrForm)
}

// formedActs returns many acts, formed and not.
func formedActs() []api.Act {
	all := []api.Act{{}, {Kind: api.AcDeed}, deedAct(api.Deed{ID: 3}), deedAct(api.Deed{ID: 3, Kind: 6}), {Kind: 10}, {Kind: -1}}
	for _, x := range speltActs() {
		all = append(append(all, x.a), changes(x.a, true)...)
		for _, name := range names {
			a := x.a
			a.Claim.Thing = name
			all = append(all, a)
		}
	}
	return all
}

func TestFormedActs(t *testing.T) {
	kinds := map[bool]int{}
	for _, a := range formedActs() {
		want := api.OK
		if !isAct(a) {
			want = api.ErrForm
		}
		text, e := house.Print([]api.Act{a})
		if e != want || (e != api.OK && text != "") {
			t.Fatalf("P10.4: Print of %+v: %q, error %d, want %d", a, text, e, want)
		}
		at := -1
		if want != api.OK {
			at = 1
		}
		e, i := house.Check(api.Season{Cote: example(), Acts: []api.Act{{Kind: api.AcDay}, a}})
		if e != want || i != at {
			t.Fatalf("P10.4: Check of %+v: error %d at %d, want %d at %d", a, e, i, want, at)
		}
		kinds[want == api.OK]++
	}
	if kinds[true] < 500 || kinds[false] < 5000 {
		t.Error("the acts are too much alike:", kinds)
	}
}

func TestCheck(t *testing.T) {
	day, none := api.Act{Kind: api.AcDay}, api.Act{}
	for _, x := range []struct {
		what string
		acts []api.Act
		e    api.Errno
		at   int
	}{
		{"no acts", nil, api.OK, -1},
		{"70 acts", slices.Repeat([]api.Act{day}, 70), api.OK, -1},
		{"71 acts", slices.Repeat([]api.Act{day}, 71), api.ErrLimit, -1},
		{"71 acts that are none", make([]api.Act, 71), api.ErrLimit, -1},
		{"70 acts that are none", make([]api.Act, 70), api.ErrForm, 0},
		{"acts of which two are none", []api.Act{day, day, none, day, none}, api.ErrForm, 2},
		{"acts of which the last one is none", append(slices.Repeat([]api.Act{day}, 69), none), api.ErrForm, 69},
		{"acts that all have errors", []api.Act{{Kind: api.AcDay, A: 3}, day, {Kind: api.AcNest, A: 1919}}, api.OK, -1},
	} {
		e, at := house.Check(api.Season{Cote: example(), Acts: x.acts})
		if e != x.e || at != x.at {
			t.Errorf("P10.4: Check of %s: error %d at %d, want %d at %d", x.what, e, at, x.e, x.at)
		}
		for _, y := range wrongCotes() {
			e, at = house.Check(api.Season{Cote: y.c, Acts: x.acts})
			if e != y.e || at != -1 {
				t.Errorf("P10.4: Check of %s, with %s: error %d at %d, want %d at -1", y.what, x.what, e, at, y.e)
			}
		}
	}
}

// parses reports a text of which Parse does not return acts.
func parses(t *testing.T, what, text string, want ...api.Act) {
	t.Helper()
	l, e, at := house.Parse(text)
	if e != api.OK || at != -1 || !alike(l, want) {
		t.Errorf("%s: %q: %+v, error %d at %d, want %+v", what, text, l, e, at, want)
	}
}

// refuses reports a text of which Parse does not return an error and an index.
func refuses(t *testing.T, what, text string, want api.Errno, index int) {
	t.Helper()
	l, e, at := house.Parse(text)
	if e != want || at != index || len(l) != 0 {
		t.Errorf("%s: %q: %+v, error %d at %d, want %d at %d", what, text, l, e, at, want, index)
	}
}

func TestParse(t *testing.T) {
	text, acts := "", []api.Act{}
	for _, x := range speltActs() {
		parses(t, "P10.4: a line", x.line+"\n", x.a)
		refuses(t, "P10.4: a line without a line feed", x.line, api.ErrForm, 0)
		text, acts = text+x.line+"\n", append(acts, x.a)
	}
	parses(t, "P10.4: nothing", "")
	parses(t, "P10.4: all lines", text, acts...)
	refuses(t, "P10.4: all lines, without the last line feed", strings.TrimSuffix(text, "\n"), api.ErrForm, len(acts)-1)
	refuses(t, "P10.4: an empty line behind all", text+"\n", api.ErrForm, len(acts))
	refuses(t, "P10.4: an empty line ahead of all", "\n"+text, api.ErrForm, 0)
	refuses(t, "P10.4: a blank behind all", text+" ", api.ErrForm, len(acts))
	refuses(t, "P10.4: a line without a line feed behind all", text+"day 0", api.ErrForm, len(acts))
	refuses(t, "P10.4: two lines that are none", text+"day\nday\n"+text, api.ErrForm, len(acts))
	refuses(t, "P10.4: a zero byte", "day 0\n\x00", api.ErrForm, 1)
}

func TestLimitOfParse(t *testing.T) {
	line := "birds 3\n"
	parses(t, "P10.4: 70 lines", strings.Repeat(line, 70), slices.Repeat([]api.Act{{Kind: api.AcBirds, Known: 3}}, 70)...)
	refuses(t, "P10.4: 71 lines", strings.Repeat(line, 71), api.ErrLimit, -1)
	refuses(t, "P10.4: 71 lines that are none", strings.Repeat("\n", 71), api.ErrLimit, -1)
	refuses(t, "P10.4: 71 lines, the first one none", "x\n"+strings.Repeat(line, 70), api.ErrLimit, -1)
	refuses(t, "P10.4: 70 lines that are none", strings.Repeat("\n", 70), api.ErrForm, 0)
	refuses(t, "P10.4: 70 lines, and one without a line feed", strings.Repeat(line, 70)+"birds 3", api.ErrForm, 70)
	refuses(t, "P10.4: a long line", strings.Repeat("birds 3 ", 100000), api.ErrForm, 0)
}

// lineKinds are lines with what their words may be: a number from 0 to a greatest one, an ID, the ends of a span, or a name.
var lineKinds = []string{
	"day 730", "round 730 730", "nest 1919 2 730 730", "clash 1919 730", "birds 730", "taking 500 730 730", "due 500 730 730",
	"right name 730 730", "right not name 730 730", "fact id name lo 730", "fact id not name lo 730",
	"peep id 1919 730 lo 9 lo 9 lo 9", "take id 1919 730", "seen id 730 1919 9 9 9 9", "back id id",
}

// digits is how a number is written.
var digits = regexp.MustCompile(`^(0|[1-9][0-9]*)$`)

// isWord says whether a word may stand where one of a kind is wanted, if the next kind, of an end of a span, and word are these.
func isWord(kind, word string, after []string) bool {
	switch kind {
	case "name":
		return isName(word)
	case "id":
		n, err := strconv.Atoi(word)
		return digits.MatchString(word) && err == nil && 1 <= n && n <= 1<<20
	case "lo":
		n, _ := strconv.Atoi(word)
		hi, err := strconv.Atoi(after[0])
		return digits.MatchString(word) && err == nil && n <= hi && len(word) < 10
	}
	most, err := strconv.Atoi(kind)
	if err != nil {
		return kind == word
	}
	n, err := strconv.Atoi(word)
	return digits.MatchString(word) && err == nil && n <= most
}

// isLine says whether a line is one of a formed act.
func isLine(line string) bool {
	words := strings.Split(line, " ")
	return slices.ContainsFunc(lineKinds, func(of string) bool {
		kinds := strings.Split(of, " ")
		if len(kinds) != len(words) {
			return false
		}
		for i, kind := range kinds {
			if !isWord(kind, words[i], words[i+1:]) {
				return false
			}
		}
		return true
	})
}

// otherWords are words with which lines are broken.
func otherWords() []string {
	all := []string{"", " ", "-1", "-0", "+1", "00", "01", "1.", "1e1", "0x1", "1_0", "٣", "x", "not", "not not", "day", "peep", "deed", "Day", "name ", "\t", "\r", "a\tb",
		"fact", "gives", "99999999999999999999", "9223372036854775808", "-9223372036854775808", "18446744073709551616", "18446744073709551617"}
	for _, n := range strange {
		all = append(all, strconv.Itoa(n))
	}
	return append(all, names...)
}

// heldAgainst reports a line that Parse takes though a plain reading does not, or the other way round, or that is not printed again.
func heldAgainst(t *testing.T, line string) bool {
	t.Helper()
	l, e, at := house.Parse("day 1\n" + line + "\n")
	if !isLine(line) {
		if e != api.ErrForm || at != 1 || len(l) != 0 {
			t.Fatalf("P10.4: %q: %+v, error %d at %d", line, l, e, at)
		}
		return false
	}
	text, f := house.Print(l)
	if e != api.OK || at != -1 || len(l) != 2 || !isAct(l[1]) || f != api.OK || text != "day 1\n"+line+"\n" {
		t.Fatalf("P10.4, P10.9: %q: %+v, error %d at %d, which are %q, error %d", line, l, e, at, text, f)
	}
	return true
}

// TestBrokenLines holds Parse against a plain reading, in lines in which a word is another one, or missing, or one too many.
func TestBrokenLines(t *testing.T) {
	kinds := map[bool]int{}
	for _, x := range speltActs() {
		words := strings.Split(x.line, " ")
		for i := range words {
			try := func(now ...string) {
				kinds[heldAgainst(t, strings.Join(slices.Concat(words[:i], now, words[i+1:]), " "))]++
			}
			try()
			for _, w := range otherWords() {
				try(w)
				try(w, words[i])
				try(words[i], w)
				try(words[i] + w)
				if i > 0 {
					kinds[heldAgainst(t, strings.Join(slices.Concat(words[:i-1], []string{w, w}, words[i+1:]), " "))]++
				}
			}
		}
	}
	if kinds[true] < 500 || kinds[false] < 5000 {
		t.Error("the lines are too much alike:", kinds)
	}
}

// TestTextsComeBack holds acts against what is read of their text.
func TestTextsComeBack(t *testing.T) {
	for _, a := range formedActs() {
		if !isAct(a) {
			continue
		}
		text, _ := house.Print([]api.Act{a})
		if !isLine(strings.TrimSuffix(text, "\n")) {
			t.Fatalf("P10.4: Print of %+v: %q", a, text)
		}
		parses(t, "P10.9: Parse of Print", text, a)
	}
	d := dice(4)
	for range 200 {
		acts := d.season(d.roll(71)).Acts
		acts = slices.DeleteFunc(acts, func(a api.Act) bool { return !isAct(a) })
		text, e := house.Print(acts)
		fails(t, "P10.9: Print", e, api.OK)
		parses(t, "P10.9: Parse of Print", text, acts...)
	}
}

func TestNumbersOfParse(t *testing.T) {
	for _, n := range []int{-1, 731, 1 << 32, 1<<32 + 5, math.MaxInt, math.MinInt} {
		refuses(t, "P10.4: a day that is none", "day "+strconv.Itoa(n)+"\n", api.ErrForm, 0)
	}
}
