package about_test

import (
	"math"
	"testing"

	"potence/about"
	"potence/api"
)

// truth is what is so of numbers of two vague days, found by going through all of them.
type truth struct {
	a, b      api.Vague
	so        func(x, y int) bool
	can, must int
}

// count returns for how many numbers of the spans of a degree it is so, and for how many not.
func (h truth) count(degree int) (so, not int) {
	s, t := h.a.Spans[degree-1], h.b.Spans[degree-1]
	for x := s.Lo; x <= s.Hi; x++ {
		for y := t.Lo; y <= t.Hi; y++ {
			if h.so(x, y) {
				so++
			} else {
				not++
			}
		}
	}
	return so, not
}

// truthOf goes through all numbers.
func truthOf(a, b api.Vague, so func(x, y int) bool) truth {
	h := truth{a: a, b: b, so: so, must: 13}
	for d := 1; d <= 12; d++ {
		is, not := h.count(d)
		if is > 0 {
			h.can = d
		}
		if not == 0 && h.must == 13 {
			h.must = d
		}
	}
	return h
}

// accepts says whether a verdict is one, by the words of the chapter.
func (h truth) accepts(v api.Verdict) bool {
	if v.Can != h.can || v.Must != h.must {
		return false
	}
	in := func(degree int, n [2]int) bool {
		return inSpan(h.a.Spans[degree-1], n[0]) && inSpan(h.b.Spans[degree-1], n[1])
	}
	if v.Can == 0 && v.Yes != [2]int{} || v.Can > 0 && !(in(v.Can, v.Yes) && h.so(v.Yes[0], v.Yes[1])) {
		return false
	}
	return v.Must == 1 && v.No == [2]int{} || v.Must > 1 && in(v.Must-1, v.No) && !h.so(v.No[0], v.No[1])
}

// asked is a question with what answers it, what checks the answer, and the truth.
type asked struct {
	name  string
	judge func() (api.Verdict, api.Errno)
	check func(v api.Verdict) api.Errno
	truth truth
}

// questions returns questions about two vague days.
func questions(a, b api.Vague, most int, in api.Span) []asked {
	apart := func(x, y int) bool { return max(x-y, y-x) <= most }
	return []asked{
		{"Before", func() (api.Verdict, api.Errno) { return about.Before(a, b) },
			func(v api.Verdict) api.Errno { return about.CheckBefore(a, b, v) },
			truthOf(a, b, func(x, y int) bool { return x < y })},
		{"Near", func() (api.Verdict, api.Errno) { return about.Near(a, b, most) },
			func(v api.Verdict) api.Errno { return about.CheckNear(a, b, most, v) },
			truthOf(a, b, apart)},
		{"In", func() (api.Verdict, api.Errno) { return about.In(a, in) },
			func(v api.Verdict) api.Errno { return about.CheckIn(a, in, v) },
			truthOf(a, api.Vague{}, func(x, _ int) bool { return inSpan(in, x) })},
	}
}

// eachQuestion calls do with questions about some vague days.
func eachQuestion(times int, seed dice, do func(q asked)) {
	for range times {
		a, b := seed.vague(seed.roll(9)-4, 7), seed.vague(seed.roll(9)-4, 7)
		lo := seed.roll(12) - 5
		for _, q := range questions(a, b, seed.roll(8), span(lo, lo+seed.roll(6))) {
			do(q)
		}
	}
}

func TestVerdicts(t *testing.T) {
	eachQuestion(3000, 7, func(q asked) {
		v, e := q.judge()
		if e != api.OK || !q.truth.accepts(v) {
			t.Fatalf("P2.5 to P2.7: %s of %v and %v: %+v, error %d; want %d and %d", q.name, q.truth.a, q.truth.b, v, e, q.truth.can, q.truth.must)
		}
		if e := q.check(v); e != api.OK {
			t.Fatalf("P2.14: %s of %v and %v: %+v is checked with %d", q.name, q.truth.a, q.truth.b, v, e)
		}
		if v.Can != 12 && v.Must != 13 {
			t.Fatalf("P2.14: %s of %v and %v: %+v", q.name, q.truth.a, q.truth.b, v)
		}
		for d := 1; d <= 12; d++ {
			is, not := q.truth.count(d)
			if d >= v.Must && not > 0 || d > v.Can && is > 0 {
				t.Fatalf("P2.14: %s of %v and %v: %+v is not so to %d", q.name, q.truth.a, q.truth.b, v, d)
			}
		}
	})
}

// checked reports a verdict that is not checked as its truth wants it.
func checked(t *testing.T, q asked, v api.Verdict) {
	t.Helper()
	want := api.ErrProof
	if q.truth.accepts(v) {
		want = api.OK
	}
	if e := q.check(v); e != want {
		t.Fatalf("P2.5 to P2.7: %s of %v and %v: %+v is checked with %d, want %d", q.name, q.truth.a, q.truth.b, v, e, want)
	}
}

func TestCheckersOfDegrees(t *testing.T) {
	eachQuestion(300, 8, func(q asked) {
		v, _ := q.judge()
		for can := -1; can <= 14; can++ {
			for must := -1; must <= 15; must++ {
				w := v
				w.Can, w.Must = can, must
				checked(t, q, w)
			}
		}
		for _, n := range []int{math.MaxInt, math.MinInt} {
			w := v
			w.Can = n
			checked(t, q, w)
			w.Must = n
			checked(t, q, w)
			w.Can = v.Can
			checked(t, q, w)
		}
	})
}

func TestCheckersOfNumbers(t *testing.T) {
	far := []int{math.MaxInt, math.MinInt, -3001, 3001}
	var near []int
	for n := -6; n <= 13; n++ {
		near = append(near, n)
	}
	near = append(near, far...)
	eachQuestion(300, 9, func(q asked) {
		v, _ := q.judge()
		for _, x := range near {
			for _, y := range near {
				w := v
				w.Yes = [2]int{x, y}
				checked(t, q, w)
				w = v
				w.No = [2]int{x, y}
				checked(t, q, w)
			}
		}
	})
}

func TestVerdictsFarApart(t *testing.T) {
	far, wide := around(3000, 3000, 0), around(-3000, 3000, 0)
	v, e := about.Near(far, wide, 6000)
	if e != api.OK || v.Can != 12 || v.Must != 1 || v.No != [2]int{} || about.CheckNear(far, wide, 6000, v) != api.OK {
		t.Error("P2.6: all days are near:", v, e)
	}
	v, e = about.Near(far, wide, 5999)
	if e != api.OK || v.Can != 12 || v.Must != 13 || v.No != [2]int{3000, -3000} || about.CheckNear(far, wide, 5999, v) != api.OK {
		t.Error("P2.6: almost all days are near:", v, e)
	}
	v, e = about.In(wide, span(math.MinInt, math.MaxInt))
	if e != api.OK || v.Can != 12 || v.Must != 1 || about.CheckIn(wide, span(math.MinInt, math.MaxInt), v) != api.OK {
		t.Error("P2.7: in a span of any numbers:", v, e)
	}
	for _, s := range []api.Span{span(math.MinInt, -3001), span(3001, math.MaxInt), span(math.MaxInt, math.MaxInt), span(math.MinInt, math.MinInt)} {
		v, e = about.In(wide, s)
		if e != api.OK || v.Can != 0 || v.Must != 13 || v.Yes != [2]int{} || about.CheckIn(wide, s, v) != api.OK {
			t.Error("P2.7: in a span that it does not meet:", s, v, e)
		}
	}
}

func TestExamplesOfVerdicts(t *testing.T) {
	a, b := examples()
	v, e := about.Before(a, b)
	if e != api.OK || v.Can != 12 || v.Must != 10 || about.CheckBefore(a, b, v) != api.OK {
		t.Error("P2.5: before:", v, e)
	}
	fails(t, "P2.5: the example", about.CheckBefore(a, b, api.Verdict{Can: 12, Must: 10, Yes: [2]int{213, 221}, No: [2]int{216, 214}}), api.OK)
	fails(t, "P2.5: a number of a greater degree", about.CheckBefore(a, b, api.Verdict{Can: 12, Must: 10, Yes: [2]int{213, 221}, No: [2]int{217, 214}}), api.ErrProof)
	v, e = about.Near(a, b, 5)
	if e != api.OK || v.Can != 11 || v.Must != 13 || about.CheckNear(a, b, 5, v) != api.OK {
		t.Error("P2.6: near:", v, e)
	}
	fails(t, "P2.6: the example", about.CheckNear(a, b, 5, api.Verdict{Can: 11, Must: 13, Yes: [2]int{214, 218}, No: [2]int{213, 222}}), api.OK)
	v, e = about.In(a, span(205, 214))
	if e != api.OK || v.Can != 12 || v.Must != 11 || v.No != [2]int{215, 0} || v.Yes[1] != 0 || about.CheckIn(a, span(205, 214), v) != api.OK {
		t.Error("P2.7: in:", v, e)
	}
	fails(t, "P2.7: the example", about.CheckIn(a, span(205, 214), api.Verdict{Can: 12, Must: 11, Yes: [2]int{213, 0}, No: [2]int{215, 0}}), api.OK)
	fails(t, "P2.7: a second number", about.CheckIn(a, span(205, 214), api.Verdict{Can: 12, Must: 11, Yes: [2]int{213, 1}, No: [2]int{215, 0}}), api.ErrProof)
	fails(t, "P2.7: a second number", about.CheckIn(a, span(205, 214), api.Verdict{Can: 12, Must: 11, Yes: [2]int{213, 0}, No: [2]int{215, 1}}), api.ErrProof)
}

func TestErrorsOfNear(t *testing.T) {
	a, b := examples()
	for _, most := range []int{-1, 6001, math.MaxInt, math.MinInt} {
		if v, e := about.Near(a, b, most); e != api.ErrArg || v != (api.Verdict{}) {
			t.Errorf("P2.6: near %d: %v, error %d", most, v, e)
		}
		fails(t, "P2.6: how near goes ahead of the verdict", about.CheckNear(a, b, most, api.Verdict{Can: 77}), api.ErrArg)
	}
	for _, most := range []int{0, 6000} {
		v, e := about.Near(a, b, most)
		if e != api.OK || about.CheckNear(a, b, most, v) != api.OK {
			t.Errorf("P2.6: near %d: %v, error %d", most, v, e)
		}
		fails(t, "P2.6: a wrong verdict", about.CheckNear(a, b, most, api.Verdict{Can: 77}), api.ErrProof)
	}
}

func TestErrorsOfIn(t *testing.T) {
	a, _ := examples()
	for _, s := range []api.Span{span(214, 213), span(math.MaxInt, math.MinInt), span(1, 0)} {
		if v, e := about.In(a, s); e != api.ErrArg || v != (api.Verdict{}) {
			t.Errorf("P2.7: in %v: %v, error %d", s, v, e)
		}
		fails(t, "P2.7: the span goes ahead of the verdict", about.CheckIn(a, s, api.Verdict{Can: 77}), api.ErrArg)
	}
	fails(t, "P2.7: a wrong verdict", about.CheckIn(a, span(213, 213), api.Verdict{Can: 77}), api.ErrProof)
	fails(t, "P2.5: a wrong verdict", about.CheckBefore(a, a, api.Verdict{Can: 77}), api.ErrProof)
}

func TestBeforeAndBehind(t *testing.T) {
	d := dice(10)
	for range 3000 {
		a, b := d.vague(d.roll(9)-4, 7), d.vague(d.roll(9)-4, 7)
		v, e := about.Before(a, b)
		w, f := about.Before(b, a)
		if e != api.OK || f != api.OK || v.Must <= 12 && w.Can >= v.Must || w.Must <= 12 && v.Can >= w.Must {
			t.Fatalf("P2.14: %v and %v: before is %+v, behind %+v", a, b, v, w)
		}
	}
}
