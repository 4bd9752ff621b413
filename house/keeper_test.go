package house_test

import (
	"math"
	"slices"
	"strings"
	"testing"

	"potence/api"
	"potence/house"
)

// exampleActs are the acts of the chapter's examples, with their replies.
const exampleActs = `peep 11 5 3 1 2 0 9 0 9: ok
peep 12 5 9 0 9 1 9 0 9: ok
take 13 5 11: ok
nest 5 0 4 0: from 1 to 2
nest 5 1 11 0: from 2 to 2
clash 5 0: none
clash 6 0: none
peep 14 18 9 0 9 1 9 0 9: ok
round 0 0: stands 6
round 4 0: stands 6
taking 2 9 0: worth 16
taking 5 9 0: error 1
seen 21 3 5 1 2 0 0: ok
seen 22 4 7 1 0 0 0: ok
seen 23 4 5 2 0 0 0: ok
birds 0: birds 2
right alms 3 0: granted
due 3 3 0: left 1 widow 2
day 4: ok
fact 31 fast 2 6: ok
right alms 3 4: denied
right alms 3 3: granted
due 3 3 4: left 0 lord 3
back 32 14: ok
taking 2 9 4: worth 14
nest 18 1 9 4: from 0 to 2
`

// moreActs are further acts behind them, with their replies.
const moreActs = `day 3: error 1
day 4: ok
take 13 5 1: error 6
take 50 36 1: error 7
take 50 35 13: error 7
day 13: ok
right not alms 3 13: denied
right fast 6 13: granted
right bread 6 13: error 5
due 0 3 0: left 0 widow 0
due 500 6 13: left 496 lord 4
due 500 101 13: left 500
nest 36 0 0 0: error 1
nest 35 0 13 0: error 1
nest 0 2 12 0: from 2 to 2
clash 1919 0: error 1
take 51 5 11: ok
take 52 5 11: ok
clash 5 4: none
clash 5 13: error 6
taking 0 0 13: error 6
back 53 51: ok
back 54 52: ok
clash 5 13: none
peep 55 5 9 0 9 0 0 0 9: ok
clash 5 13: contradiction
nest 5 0 0 13: error 9
taking 0 0 13: error 9
taking 0 0 12: worth 0
taking 3 9 0: worth 22
taking 4 9 0: worth 28
peep 56 3 12 0 9 0 9 0 9: ok
take 57 13 12: ok
peep 58 22 12 0 9 0 9 0 9: ok
round 12 13: stands 0 7
round 0 13: stands 3 7
round 13 13: stands
birds 730: birds 2
`

// season returns the season of the examples, and the lines of its transcript.
func season(more string) (api.Season, []string) {
	var acts, lines []string
	for line := range strings.Lines(exampleActs + more) {
		act, told, _ := strings.Cut(strings.TrimSuffix(line, "\n"), ": ")
		acts, lines = append(acts, act+"\n"), append(lines, told)
	}
	l, _, _ := house.Parse(strings.Join(acts, ""))
	return api.Season{Cote: example(), Acts: l}, lines
}

func TestExamples(t *testing.T) {
	for _, more := range []string{"", moreActs} {
		s, lines := season(more)
		l, e := house.Run(s)
		fails(t, "P10.6: Run of the examples", e, api.OK)
		got, e := house.Transcript(s, l)
		fails(t, "P10.6: Transcript of the examples", e, api.OK)
		for i, line := range got {
			// Which stands of a round are told is not specified, but how many are.
			if line != lines[i] && (!strings.HasPrefix(line, "stands") || len(strings.Fields(line)) != len(strings.Fields(lines[i]))) {
				t.Errorf("P10.6, P10.7: %+v: %q, want %q", s.Acts[i], line, lines[i])
			}
		}
		if len(got) != len(lines) || len(lines) < 26 {
			t.Error("P10.6: the transcript is", got)
		}
		if e, at := house.Accept(s, l); e != api.OK || at != -1 {
			t.Errorf("P10.8: Accept of the examples: error %d at %d", e, at)
		}
	}
}

func TestNew(t *testing.T) {
	for i, c := range rightCotes() {
		k, e := house.New(c)
		if e != api.OK || k == nil || k.Day() != 0 || len(k.Deeds()) != 0 {
			t.Errorf("P10.5: New of the right dovecote %d: %v, error %d", i, k, e)
		}
	}
	for _, x := range wrongCotes() {
		if k, e := house.New(x.c); e != x.e || k != nil {
			t.Errorf("P10.5: New of %s: %v, error %d, want %d", x.what, k, e, x.e)
		}
	}
}

// does reports an act to which the reply is not just an error (or OK), or behind which the keeper is not as wanted.
func does(t *testing.T, what string, k *house.Keeper, a api.Act, e api.Errno, day int, deeds []api.Deed) {
	t.Helper()
	told := k.Do(a)
	if !alike(told, api.Told{Err: e}) {
		t.Errorf("P10.5: %s: %+v, want error %d", what, told, e)
	}
	if k.Day() != day || !alike(k.Deeds(), deeds) {
		t.Errorf("P10.5: %s: the day is %d, and the deeds %+v, want %d, %+v", what, k.Day(), k.Deeds(), day, deeds)
	}
}

func TestDays(t *testing.T) {
	k, _ := house.New(example())
	day := func(n int) api.Act { return api.Act{Kind: api.AcDay, A: n} }
	does(t, "the first day", k, day(0), api.OK, 0, nil)
	does(t, "the day 5", k, day(5), api.OK, 5, nil)
	does(t, "the day before", k, day(4), api.ErrArg, 5, nil)
	does(t, "the first day again", k, day(0), api.ErrArg, 5, nil)
	does(t, "the same day", k, day(5), api.OK, 5, nil)
	does(t, "a day less than 0", k, day(-1), api.ErrForm, 5, nil)
	does(t, "a day that there is not", k, day(731), api.ErrForm, 5, nil)
	does(t, "a day with more than that", k, api.Act{Kind: api.AcDay, A: 6, B: 1}, api.ErrForm, 5, nil)
	does(t, "the last day", k, day(730), api.OK, 730, nil)
	does(t, "the day before", k, day(729), api.ErrArg, 730, nil)
}

func TestDeeds(t *testing.T) {
	k, _ := house.New(example())
	var want []api.Deed
	for i, d := range book() {
		a := deedAct(d)
		a.Deed.Known = 0
		k.Do(api.Act{Kind: api.AcDay, A: i / 2})
		d.Known = i / 2
		want = append(want, d)
		does(t, "a deed", k, a, api.OK, i/2, want)
		does(t, "a deed again", k, a, api.ErrTwice, i/2, want)
		a.Deed.ID, a.Deed.Known = 100+i, i/2+1
		does(t, "a deed that is known already", k, a, api.ErrForm, i/2, want)
	}
	for _, d := range []api.Deed{take(51, 0, 36, 0), take(51, 0, 1919, 0), take(51, 0, 0, 13), peep(51, 0, 36, 3, true), peep(51, 0, 3, 13, true), sight(51, 0, 3, 36), sight(51, 0, 13, 3)} {
		if !isAct(deedAct(d)) {
			t.Fatal("the act is not formed:", d)
		}
		does(t, "a deed of a hole or day that the dovecote does not have", k, deedAct(d), api.ErrForm, 4, want)
	}
	for _, x := range wrongLots()[3:4] {
		does(t, "a deed that is none", k, deedAct(x.deeds[len(x.deeds)-1]), api.ErrForm, 4, want)
	}
	for id := 51; len(want) < 40; id++ {
		want = append(want, back(id, 4, 3))
		does(t, "a deed", k, deedAct(back(id, 0, 3)), api.OK, 4, want)
	}
	does(t, "the deed 41", k, deedAct(back(100, 0, 3)), api.ErrLimit, 4, want)
	does(t, "the deed 41, an ID twice", k, deedAct(back(51, 0, 3)), api.ErrLimit, 4, want)
	does(t, "the deed 41, which is none", k, deedAct(back(51, 0, 0)), api.ErrForm, 4, want)
}

// TestErrorsChangeNothing does acts that are not formed, or have errors, between others.
func TestErrorsChangeNothing(t *testing.T) {
	d := dice(5)
	acts := slices.DeleteFunc(formedActs(), isAct)
	for range 60 {
		s := d.season(40)
		k, _ := house.New(s.Cote)
		other, _ := house.New(s.Cote)
		for _, a := range s.Acts {
			none := acts[d.roll(len(acts))]
			does(t, "what is no act", k, none, api.ErrForm, k.Day(), k.Deeds())
			day, deeds := k.Day(), k.Deeds()
			told := k.Do(a)
			if a.Kind >= api.AcRound || told.Err != api.OK {
				if k.Day() != day || !alike(k.Deeds(), deeds) {
					t.Fatalf("P10.5, R5: %+v changes the keeper", a)
				}
			}
			if again := other.Do(a); !alike(told, again) {
				t.Fatalf("P10.5, R5, R7: %+v: %+v, want %+v", a, told, again)
			}
		}
	}
}

// TestKeeper holds keepers against a plain reading of the chapter.
func TestKeeper(t *testing.T) {
	d := dice(6)
	errors := map[api.Errno]int{}
	for range 400 {
		s := d.season(60)
		k, _ := house.New(s.Cote)
		day, deeds := 0, []api.Deed{}
		for _, a := range s.Acts {
			var want api.Told
			switch {
			case !isAct(a):
				want.Err = api.ErrForm
			case a.Kind == api.AcDay && a.A < day:
				want.Err = api.ErrArg
			case a.Kind == api.AcDay:
				day = a.A
			case a.Kind == api.AcDeed:
				a.Deed.Known = day
				want.Err = house.CheckDeeds(s.Cote, with(deeds, a.Deed))
				if want.Err == api.OK {
					deeds = with(deeds, a.Deed)
				}
				a.Deed.Known = 0
			default:
				want = replyOf(s.Cote, deeds, a)
			}
			if told := k.Do(a); !alike(told, want) {
				t.Fatalf("P10.5: %+v: %+v, want %+v", a, told, want)
			}
			if k.Day() != day || !alike(k.Deeds(), deeds) {
				t.Fatalf("P10.5: behind %+v the day is %d, and the deeds %v, want %d, %v", a, k.Day(), k.Deeds(), day, deeds)
			}
			errors[want.Err]++
		}
	}
	if errors[api.OK] < 10000 || errors[api.ErrTwice] < 1000 || errors[api.ErrArg] < 1000 || errors[api.ErrNone] < 100 || errors[api.ErrClash] < 100 {
		t.Error("the seasons are too much alike:", errors)
	}
}

// TestMemoryOfKeepers spoils what a keeper is given, and what it returns.
func TestMemoryOfKeepers(t *testing.T) {
	d := dice(7)
	seasons := []api.Season{}
	s, _ := season(moreActs)
	for seasons = append(seasons, s); len(seasons) < 60; {
		seasons = append(seasons, d.season(50))
	}
	for _, s := range seasons {
		c := copyOf(s.Cote, 2)
		whole := wholeOf(c)
		k, _ := house.New(c)
		if !alike(wholeOf(c), whole) {
			t.Fatal("R6: New changes", whole)
		}
		spoil(c)
		other, _ := house.New(s.Cote)
		for _, a := range s.Acts {
			told, want := k.Do(a), other.Do(a)
			if !alike(told, want) {
				t.Fatalf("R6: %+v: %+v, want %+v", a, told, want)
			}
			spoil(told)
			spoil(k.Deeds())
			if !alike(k.Deeds(), other.Deeds()) {
				t.Fatalf("R6: the deeds are %+v, want %+v", k.Deeds(), other.Deeds())
			}
		}
		s := api.Season{Cote: copyOf(s.Cote, 2), Acts: copyOf(s.Acts, 2)}
		wholeS := wholeOf(s)
		l, _ := house.Run(s)
		told := copyOf(l, 2)
		wholeL := wholeOf(told)
		house.Transcript(s, told)
		house.Accept(s, told)
		house.Check(s)
		house.Print(s.Acts)
		if !alike(wholeOf(s), wholeS) || !alike(wholeOf(told), wholeL) {
			t.Fatalf("R6: the season was %+v, and is %+v, with %+v", wholeS, wholeOf(s), told)
		}
		spoil(l)
		if again, _ := house.Run(s); !alike(again, copyOf(told, 0)) {
			t.Fatalf("R6, R7: Run: %+v, want %+v", again, told)
		}
	}
}

func TestRun(t *testing.T) {
	d := dice(8)
	for range 100 {
		s := d.season(d.roll(71))
		s.Acts = slices.DeleteFunc(s.Acts, func(a api.Act) bool { return !isAct(a) })
		k, _ := house.New(s.Cote)
		var want []api.Told
		for _, a := range s.Acts {
			want = append(want, k.Do(a))
		}
		l, e := house.Run(s)
		is(t, "P10.6: Run", l, e, want)
	}
	for _, x := range wrongSeasons() {
		l, e := house.Run(x.s)
		failsEmpty(t, "P10.6: Run of "+x.what, l, e, x.e)
	}
}

// wrongSeason is a season that is not right, its first error, and where it lies.
type wrongSeason struct {
	what string
	s    api.Season
	e    api.Errno
	at   int
}

// wrongSeasons returns seasons that are not right.
func wrongSeasons() []wrongSeason {
	all := []wrongSeason{
		{"71 acts", api.Season{Cote: example(), Acts: slices.Repeat([]api.Act{{Kind: api.AcDay}}, 71)}, api.ErrLimit, -1},
		{"what is no act", api.Season{Cote: example(), Acts: []api.Act{{Kind: api.AcDay}, {}}}, api.ErrForm, 1},
	}
	for _, x := range wrongCotes() {
		all = append(all, wrongSeason{x.what, api.Season{Cote: x.c, Acts: []api.Act{{Kind: api.AcDay}, {}}}, x.e, -1})
	}
	return all
}

// allTold is a reply in which all lists have elements, and no number is 0.
var allTold = api.Told{
	Round:  api.Round{Stands: []int{4, -5, math.MaxInt}, Cuts: []api.Cut{{Stand: 3}}},
	Number: api.Number{Span: span(-7, math.MinInt)}, Is: true, Stays: [][]api.Stay{nil},
	Birds: api.Birds{Chains: [][]int{nil, {3}, nil}, Apart: []int{3}}, Stand: api.Stand{Is: 1, Round: 2},
	Ruling: api.Ruling{Things: []string{"a"}}, Taken: api.Taken{Given: []int{2}, Worth: -30},
	Owed: []api.Owed{{Who: "lord", Birds: 3}, {Who: "", Birds: -1}, {Who: "Q x", Birds: 0}}, Left: -2,
}

func TestTranscript(t *testing.T) {
	told := func(change func(t *api.Told)) api.Told {
		t := copyOf(allTold, 0)
		change(&t)
		return t
	}
	none := func(*api.Told) {}
	acts := map[string]api.Act{}
	for _, x := range speltActs() {
		acts[strings.Fields(x.line)[0]] = x.a
	}
	for _, x := range []struct {
		word string
		told api.Told
		want string
	}{
		{"day", told(none), "ok"}, {"peep", told(none), "ok"}, {"take", told(none), "ok"}, {"seen", told(none), "ok"}, {"fact", told(none), "ok"}, {"back", told(none), "ok"},
		{"round", told(none), "stands 4 -5 9223372036854775807"}, {"round", api.Told{}, "stands"},
		{"nest", told(none), "from -7 to -9223372036854775808"}, {"nest", api.Told{}, "from 0 to 0"},
		{"clash", told(none), "contradiction"}, {"clash", told(func(t *api.Told) { t.Is = false }), "none"},
		{"birds", told(none), "birds 3"}, {"birds", told(func(t *api.Told) { t.Birds.Chains = nil }), "birds 0"},
		{"right", told(none), "granted"}, {"right", told(func(t *api.Told) { t.Stand.Is = 0 }), "open"}, {"right", told(func(t *api.Told) { t.Stand.Is = 2 }), "denied"},
		{"right", told(func(t *api.Told) { t.Stand.Is = 3 }), "denied"}, {"right", told(func(t *api.Told) { t.Stand.Is = -1 }), "denied"},
		{"taking", told(none), "worth -30"}, {"taking", api.Told{}, "worth 0"},
		{"due", told(none), "left -2 lord 3  -1 Q x 0"}, {"due", api.Told{}, "left 0"},
	} {
		s := api.Season{Cote: example(), Acts: []api.Act{{Kind: api.AcDay, A: 3}, acts[x.word]}}
		lines, e := house.Transcript(s, []api.Told{{}, x.told})
		is(t, "P10.6: Transcript of "+x.word, lines, e, []string{"ok", x.want})
		for _, n := range []int{1, 9, -4, 77, math.MinInt} {
			x.told.Err = api.Errno(n)
			lines, e = house.Transcript(s, []api.Told{x.told, x.told})
			want := map[int]string{1: "error 1", 9: "error 9", -4: "error -4", 77: "error 77", math.MinInt: "error -9223372036854775808"}[n]
			is(t, "P10.6: Transcript of an error of "+x.word, lines, e, []string{want, want})
		}
	}
	lines, e := house.Transcript(api.Season{Cote: example()}, nil)
	is(t, "P10.6: Transcript of nothing", lines, e, nil)
}

func TestErrorsOfTranscript(t *testing.T) {
	s := api.Season{Cote: example(), Acts: []api.Act{{Kind: api.AcDay}, {Kind: api.AcBirds}}}
	for _, n := range []int{0, 1, 3, 100} {
		lines, e := house.Transcript(s, make([]api.Told, n))
		failsEmpty(t, "P10.6: Transcript of too few, or too many", lines, e, api.ErrArg)
		for _, x := range wrongSeasons() {
			lines, e := house.Transcript(x.s, make([]api.Told, n))
			failsEmpty(t, "P10.6: Transcript of "+x.what, lines, e, x.e)
		}
	}
}
