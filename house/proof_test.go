package house_test

import (
	"math"
	"reflect"
	"slices"
	"testing"

	"potence/api"
	"potence/house"
	"potence/share"
)

// question returns the question of a line.
func question(t *testing.T, line string) api.Act {
	t.Helper()
	acts, e, _ := house.Parse(line + "\n")
	if e != api.OK || len(acts) != 1 {
		t.Fatal("no question:", line)
	}
	return acts[0]
}

// edit changes a reply, of which it is given all numbers, bools and texts, and all lists, with an element more behind each of these.
type edit func(single, lists []reflect.Value)

// edited returns a reply with a change.
func edited(x api.Told, change edit) api.Told {
	y := copyOf(x, 1)
	change(leaves(reflect.ValueOf(&y).Elem()))
	return copyOf(y, 0)
}

// edits returns changes of a reply: of a number or a bool, or of two, or of the elements of a list.
func edits(x api.Told) []edit {
	var all []edit
	single, lists := leaves(reflect.ValueOf(x))
	for i := range single {
		for _, n := range []int{-1, 1, 12, 1000} {
			all = append(all, func(single, _ []reflect.Value) { shift(single[i], n) })
			if i > 0 {
				all = append(all, func(single, _ []reflect.Value) { shift(single[i], n); shift(single[i-1], n) },
					func(single, _ []reflect.Value) { shift(single[i], n); shift(single[i-1], -n) })
			}
		}
	}
	for i := range lists {
		all = append(all, listEdits(i, lists[i].Len())...)
	}
	return all
}

// listEdits returns changes of the list at an index, which is so long.
func listEdits(i, n int) []edit {
	all := []edit{func(_, l []reflect.Value) { l[i].Set(l[i].Slice(0, n+1)) }}
	if n > 0 {
		all = append(all, func(_, l []reflect.Value) { l[i].Set(l[i].Slice(0, n-1)) },
			func(_, l []reflect.Value) { l[i].Set(l[i].Slice(1, n)) },
			func(_, l []reflect.Value) { l[i].Set(l[i].Slice(0, 0)) },
			func(_, l []reflect.Value) { l[i].Set(l[i].Slice(0, n+1)); l[i].Index(n).Set(l[i].Index(0)) })
	}
	if n > 1 {
		all = append(all, func(_, l []reflect.Value) { reflect.Swapper(l[i].Interface())(0, n-1) })
	}
	return all
}

// asGood returns a reply that may be as good as one.
func asGood(d *dice, x api.Told) api.Told {
	x = copyOf(x, 0)
	slices.Reverse(x.Birds.Chains)
	if x.Number.Span.Lo == x.Number.Span.Hi {
		x.Number.Low = slices.Clone(x.Number.High)
	}
	if n := len(x.Taken.Prices); n > 0 {
		x.Taken.Prices[d.roll(n)] += 1 - d.roll(3)
	}
	return x
}

// shift changes a number, a bool or a text.
func shift(v reflect.Value, by int) {
	switch v.Kind() {
	case reflect.Int:
		v.SetInt(v.Int() + int64(by))
	case reflect.Bool:
		v.SetBool(!v.Bool())
	case reflect.String:
		v.SetString(v.String() + "x")
	}
}

// held reports a reply that CheckReply accepts though it is not right, or the other way round; it says whether it is right.
func held(t *testing.T, c api.Cote, l []api.Deed, q api.Act, x api.Told) bool {
	t.Helper()
	is := isRight(c, l, q, x)
	want := api.ErrProof
	if is {
		want = api.OK
	}
	if e := house.CheckReply(c, l, q, x); e != want {
		t.Fatalf("P10.8: %+v of %+v, %+v: %+v: error %d, want %d", q, c, l, x, e, want)
	}
	return is
}

// TestCheckReply holds replies, and others that differ a little, against what the chapter calls right.
func TestCheckReply(t *testing.T) {
	d := dice(13)
	rights := map[int]int{} // by kind, and of all that are not right
	for range 80 {
		c := d.cote()
		l := d.deeds(c, 25)
		for range 8 {
			q := d.question(c)
			told := house.Answer(c, l, q)
			if !held(t, c, l, q, told) {
				t.Fatalf("P10.11: %+v: %+v", q, told)
			}
			all := edits(told)
			for i := range 40 {
				x := edited(told, one(&d, all...))
				if i%10 == 0 {
					x = asGood(&d, told)
				}
				if held(t, c, l, q, x) {
					rights[q.Kind]++
				} else {
					rights[0]++
				}
			}
		}
	}
	for _, kind := range []int{api.AcRound, api.AcNest, api.AcBirds, api.AcTaking} {
		if rights[kind] == 0 {
			t.Error("no reply is right beside that of Answer:", rights)
		}
	}
	if rights[0] < 5000 {
		t.Error("too few replies are not right:", rights)
	}
}

// TestOthersOfExamples holds all others of the replies of the examples against what the chapter calls right.
func TestOthersOfExamples(t *testing.T) {
	lines := []string{"round 0 0", "nest 5 0 4 0", "nest 18 1 9 4", "clash 5 0", "clash 7 0", "birds 0", "right alms 3 4", "taking 3 9 0", "taking 4 9 0", "due 3 3 4", "taking 5 9 0", "nest 7 0 0 0"}
	l := with(book(), contradiction(41, 7)...)
	for _, line := range lines {
		q := question(t, line)
		known := with(l)
		if line == "taking 3 9 0" || line == "taking 4 9 0" {
			known = book()
		}
		told := house.Answer(example(), known, q)
		for _, change := range edits(told) {
			held(t, example(), known, q, edited(told, change))
		}
		// What does not belong to the reply has to be nothing.
		for _, other := range lines {
			x := copyOf(told, 0)
			y := house.Answer(example(), book(), question(t, other))
			if q.Kind != question(t, other).Kind && y.Err == api.OK && !isNothing(y) {
				merge(reflect.ValueOf(&x).Elem(), reflect.ValueOf(y))
				if held(t, example(), known, q, x) {
					t.Errorf("P10.8: %s: %+v, with what belongs to %s", line, x, other)
				}
			}
		}
	}
}

// merge sets the fields of a reply that are nothing to those of another one.
func merge(to, from reflect.Value) {
	for i := range to.NumField() {
		if alikeValues(to.Field(i), reflect.Zero(to.Field(i).Type())) {
			to.Field(i).Set(from.Field(i))
		}
	}
}

// accepted reports a reply that CheckReply does not accept.
func accepted(t *testing.T, what string, c api.Cote, l []api.Deed, line string, x api.Told) {
	t.Helper()
	q := question(t, line)
	fails(t, "P10.8: "+what, house.CheckReply(c, l, q, x), api.OK)
	if alike(x, house.Answer(c, l, q)) {
		t.Errorf("P10.8: %s is just what Answer returns: %+v", what, x)
	}
	for _, e := range []api.Errno{api.ErrArg, api.ErrProof, -1} {
		x.Err = e
		fails(t, "P10.8: with an error, "+what, house.CheckReply(c, l, q, x), api.ErrProof)
	}
}

// refused reports a reply that CheckReply does not refuse.
func refused(t *testing.T, what string, c api.Cote, l []api.Deed, line string, x api.Told) {
	t.Helper()
	fails(t, "P10.8: "+what, house.CheckReply(c, l, question(t, line), x), api.ErrProof)
}

func TestOtherRounds(t *testing.T) {
	c, l := example(), []api.Deed{take(1, 0, 5, 3)}
	line := "round 0 0"
	reply := told(t, c, l, line)
	other := 9 - reply.Round.Stands[0] // 3 or 6
	r := api.Told{Round: api.Round{Stands: []int{other}, Cuts: []api.Cut{{Stand: 3}, {Stand: 6}}}}
	accepted(t, "another round", c, l, line, r)
	refused(t, "two stands", c, l, line, api.Told{Round: api.Round{Stands: []int{3, 6}, Cuts: r.Round.Cuts}})
	refused(t, "a round without cuts", c, l, line, api.Told{Round: api.Round{Stands: []int{other}}})
	refused(t, "no round", c, l, line, api.Told{Round: api.Round{Stands: []int{7}, Cuts: r.Round.Cuts}})
	refused(t, "a round of which it is said", c, l, line, api.Told{Round: r.Round, Is: true})
	refused(t, "a round for another day", c, l, "round 4 0", r)
	refused(t, "a round without holes", c, nil, line, r)
	refused(t, "too many stands", c, l, line, api.Told{Round: api.Round{Stands: make([]int, 300), Cuts: r.Round.Cuts}})
}

// wide are stays for all states of the breed of the examples.
func wide() []api.Stay {
	return []api.Stay{{Phase: 0, Ages: []api.Span{span(1, 2)}}, {Phase: 1, Ages: []api.Span{span(1, 2)}}, {Phase: 2, Ages: []api.Span{span(1, 4)}}, {Phase: 3, Ages: []api.Span{span(1, 6)}}}
}

func TestOtherNumbers(t *testing.T) {
	c, l := example(), book()
	line := "nest 5 0 4 0"
	reply := told(t, c, l, line)
	x := copyOf(reply, 0)
	x.Number.Low, x.Number.High = []int{0, 0, 1, 1, 2, 2, 2, 3, 3, 3, 3, 3, 0}, []int{0, 0, 1, 1, 2, 2, 2, 2, 3, 3, 3, 3, 0}
	if alike(x.Number.High, reply.Number.High) {
		x.Number.High = []int{0, 1, 1, 2, 2, 2, 2, 3, 3, 3, 3, 3, 0}
	}
	x.Number.Low = reply.Number.Low
	accepted(t, "another life", c, l, line, x)
	stays := copyOf(reply, 0)
	stays.Number.Above[1] = wide()
	accepted(t, "other stays", c, l, line, stays)
	for _, s := range []api.Span{span(0, 2), span(1, 3), span(2, 2), span(1, 1), span(2, 1), span(math.MinInt, math.MaxInt)} {
		y := copyOf(x, 0)
		y.Number.Span = s
		refused(t, "another span", c, l, line, y)
	}
	x.Number.High = x.Number.Low
	refused(t, "a life that does not attain it", c, l, line, x)
	refused(t, "a number of another day", c, l, "nest 5 0 3 0", reply)
	refused(t, "a number of something else", c, l, "nest 5 1 4 0", reply)
	refused(t, "a number of another hole", c, l, "nest 18 0 4 0", reply)
	empty := copyOf(reply, 0)
	empty.Number.Below = nil
	refused(t, "a number without stays", c, l, line, empty)
	refused(t, "no number", c, l, line, api.Told{})
}

func TestOtherClashes(t *testing.T) {
	c, l := example(), contradiction(1, 5)
	line := "clash 5 0"
	reply := told(t, c, l, line)
	if !reply.Is || len(reply.Stays) != 10 {
		t.Fatal("P10.7: no contradiction:", reply)
	}
	x := copyOf(reply, 0)
	x.Stays[1] = wide()
	accepted(t, "other stays", c, l, line, x)
	x.Is = false
	refused(t, "stays, though there is none", c, l, line, x)
	refused(t, "a contradiction without stays", c, l, line, api.Told{Is: true})
	refused(t, "neither", c, l, line, api.Told{})
	short := copyOf(reply, 0)
	short.Stays = short.Stays[:9]
	refused(t, "too few stays", c, l, line, short)
	refused(t, "stays for another hole", c, l, "clash 6 0", reply)
	refused(t, "stays where there is no contradiction", c, l, "clash 6 0", api.Told{Stays: reply.Stays})
	fails(t, "P10.8: none", house.CheckReply(c, l, question(t, "clash 6 0"), api.Told{}), api.OK)
	late := with(l, back(3, 4, 2))
	fails(t, "P10.8: a contradiction, as known then", house.CheckReply(c, late, question(t, "clash 5 3"), reply), api.OK)
	refused(t, "a contradiction, as known now", c, late, "clash 5 4", reply)
}

func TestOtherBirds(t *testing.T) {
	c, l := example(), book()
	line := "birds 0"
	reply := told(t, c, l, line)
	x := copyOf(reply, 0)
	slices.Reverse(x.Birds.Chains)
	accepted(t, "other chains", c, l, line, x)
	either := []api.Deed{sight(1, 0, 1, 1), sight(2, 0, 1, 2), sight(3, 0, 2, 2)} // the last one can be of both birds
	for _, chains := range [][][]int{{{1, 3}, {2}}, {{1}, {2, 3}}} {
		y := api.Told{Birds: api.Birds{Chains: chains, Apart: []int{1, 2}}}
		fails(t, "P10.8: either way", house.CheckReply(c, either, question(t, line), y), api.OK)
	}
	refused(t, "three birds", c, l, line, api.Told{Birds: api.Birds{Chains: [][]int{{21}, {22}, {23}}, Apart: []int{22, 23}}})
	refused(t, "three birds that are apart", c, l, line, api.Told{Birds: api.Birds{Chains: [][]int{{21}, {22}, {23}}, Apart: []int{21, 22, 23}}})
	refused(t, "no birds", c, l, line, api.Told{})
	x.Left = 1
	refused(t, "birds, and one left", c, l, line, x)
}

func TestOtherTakings(t *testing.T) {
	c, l := example(), book()
	line := "taking 3 9 0"
	reply := told(t, c, l, line)
	loft, _ := house.LoftOf(c, l, 9, 0)
	x := copyOf(reply, 0)
	g := x.Taken.Given
	g[1], g[2], g[3], g[4] = g[2], g[1], g[4], g[3]
	fails(t, "P10.8: CheckBest of the other taking", share.CheckBest(loft, x.Taken), api.OK)
	accepted(t, "another taking", c, l, line, x)
	for n := range 4 {
		best, e := share.Best(loft, n)
		want := api.ErrProof
		if n == 3 {
			want = api.OK
		}
		fails(t, "P10.8: a best taking, with so many birds", house.CheckReply(c, l, question(t, line), api.Told{Taken: best}), want+e)
	}
	x.Taken.Worth++
	refused(t, "a taking that is worth less", c, l, line, x)
	refused(t, "no taking", c, l, line, api.Told{})
	due := told(t, c, l, "due 3 9 0")
	due.Taken = reply.Taken
	refused(t, "a taking of what is due", c, l, "due 3 9 0", due)
	refused(t, "a taking of nothing", c, l, line, api.Told{Taken: api.Taken{Given: []int{3}, Worth: 22, Prices: []int{6}}})
	refused(t, "a taking, where there is none", c, l, "taking 5 9 0", reply)
	fails(t, "P10.8: an error", house.CheckReply(c, l, question(t, "taking 5 9 0"), api.Told{Err: api.ErrArg}), api.OK)
	refused(t, "another error", c, l, "taking 5 9 0", api.Told{Err: api.ErrClash})
	refused(t, "an error and a taking", c, l, "taking 5 9 0", api.Told{Err: api.ErrArg, Taken: reply.Taken})
	refused(t, "an error, where there is a taking", c, l, line, api.Told{Err: api.ErrArg})
}

func TestCheckReplyOfWhatIsNoQuestion(t *testing.T) {
	for _, a := range formedActs() {
		if isAct(a) && a.Kind >= api.AcRound {
			continue
		}
		for _, x := range []api.Told{{}, {Err: api.ErrForm}} {
			if e := house.CheckReply(example(), book(), a, x); e != api.ErrForm {
				t.Fatalf("P10.8: CheckReply of %+v: error %d", a, e)
			}
		}
	}
}

// accepts reports a season of which Accept does not return an error and an index.
func accepts(t *testing.T, what string, s api.Season, l []api.Told, want api.Errno, index int) {
	t.Helper()
	if e, at := house.Accept(s, l); e != want || at != index {
		t.Errorf("%s: error %d at %d, want %d at %d", what, e, at, want, index)
	}
}

func TestAccept(t *testing.T) {
	s, _ := season(moreActs)
	l, _ := house.Run(s)
	accepts(t, "P10.8: the replies of Run", s, l, api.OK, -1)
	accepts(t, "P10.8: a reply too few", s, l[1:], api.ErrArg, -1)
	accepts(t, "P10.8: a reply too many", s, append(slices.Clone(l), api.Told{}), api.ErrArg, -1)
	accepts(t, "P10.8: no replies", s, nil, api.ErrArg, -1)
	accepts(t, "P10.8: neither acts nor replies", api.Season{Cote: example()}, nil, api.OK, -1)
	for _, x := range wrongSeasons() {
		accepts(t, "P10.8: "+x.what, x.s, make([]api.Told, len(x.s.Acts)), x.e, x.at)
		accepts(t, "P10.8: without replies, "+x.what, x.s, nil, x.e, x.at)
	}
	for i, told := range l {
		for _, other := range []api.Told{{Err: 77}, {Left: 3}, {Is: true, Left: told.Left + 1}, {Err: told.Err, Owed: []api.Owed{{}}}} {
			wrong := copyOf(l, 0)
			wrong[i] = other
			accepts(t, "P10.8: another reply", s, wrong, api.ErrProof, i)
			wrong[len(wrong)-1] = other
			accepts(t, "P10.8: two other replies", s, wrong, api.ErrProof, i)
		}
	}
}

// TestAcceptOfSeasons holds Accept against replies that differ a little from those of Run, and against what the chapter calls right.
func TestAcceptOfSeasons(t *testing.T) {
	d := dice(14)
	kinds := map[bool]int{}
	for range 60 {
		s := d.season(50)
		s.Acts = slices.DeleteFunc(s.Acts, func(a api.Act) bool { return !isAct(a) })
		l, _ := house.Run(s)
		accepts(t, "P10.11: the replies of Run", s, l, api.OK, -1)
		for range 15 {
			i := d.roll(len(l))
			other := copyOf(l, 0)
			other[i] = edited(l[i], one(&d, edits(l[i])...))
			if d.roll(3) > 0 {
				other[i] = asGood(&d, l[i])
			}
			if alike(other[i], l[i]) {
				continue
			}
			k, _ := house.New(s.Cote)
			for _, a := range s.Acts[:i] {
				k.Do(a)
			}
			is := s.Acts[i].Kind >= api.AcRound && isRight(s.Cote, k.Deeds(), s.Acts[i], other[i])
			if kinds[is]++; is {
				accepts(t, "P10.8: another reply that is right", s, other, api.OK, -1)
			} else {
				accepts(t, "P10.8: another reply that is not right", s, other, api.ErrProof, i)
			}
			if t.Failed() {
				t.Fatalf("%+v: %+v, to %+v", s.Acts[i], other[i], s)
			}
		}
	}
	if kinds[true] < 8 || kinds[false] < 200 {
		t.Error("the replies are too much alike:", kinds)
	}
}
