package about_test

import (
	"math"
	"testing"

	"potence/about"
	"potence/api"
)

// span returns a span.
func span(lo, hi int) api.Span { return api.Span{Lo: lo, Hi: hi} }

// around returns the vague day that Around has to return.
func around(lo, hi, wider int) api.Vague {
	var a api.Vague
	for i := range a.Spans {
		a.Spans[i] = span(lo-(11-i)*wider, hi+(11-i)*wider)
	}
	return a
}

// examples returns the vague days of the chapter's examples.
func examples() (a, b api.Vague) { return around(213, 213, 1), around(220, 222, 2) }

// steps returns a vague day with a span to the degree at, and another one to each greater degree.
func steps(wide api.Span, at int, narrow api.Span) api.Vague {
	var a api.Vague
	for i := range a.Spans {
		a.Spans[i] = wide
		if i >= at {
			a.Spans[i] = narrow
		}
	}
	return a
}

// dice are numbers that are the same in each run.
type dice uint64

// roll returns a number less than n.
func (d *dice) roll(n int) int {
	*d = *d*6364136223846793005 + 1442695040888963407
	return int(uint64(*d)>>33) % n
}

// vague returns some vague day, about as wide as width at the degree 1.
func (d *dice) vague(from, width int) api.Vague {
	s := span(from, from+d.roll(width+1))
	var a api.Vague
	for i := range a.Spans {
		if d.roll(2) == 0 {
			s.Lo += d.roll(min(s.Hi-s.Lo, 2) + 1)
			s.Hi -= d.roll(min(s.Hi-s.Lo, 2) + 1)
		}
		a.Spans[i] = s
	}
	return a
}

// narrower returns some vague day that another one holds.
func (d *dice) narrower(a api.Vague) api.Vague {
	at := a.Spans[11].Lo + d.roll(a.Spans[11].Hi-a.Spans[11].Lo+1)
	lo, hi := at, at
	for i := len(a.Spans) - 1; i >= 0; i-- {
		lo -= d.roll(lo - a.Spans[i].Lo + 1)
		hi += d.roll(a.Spans[i].Hi - hi + 1)
		a.Spans[i] = span(lo, hi)
	}
	return a
}

// fails reports a promise whose error is not the one that is wanted.
func fails(t *testing.T, what string, got, want api.Errno) {
	t.Helper()
	if got != want {
		t.Errorf("%s: got error %d, want %d", what, got, want)
	}
}

// same reports a promise whose vague day is not what is wanted, or comes with an error.
func same(t *testing.T, what string, got api.Vague, e api.Errno, want api.Vague) {
	t.Helper()
	if e != api.OK || got != want {
		t.Errorf("%s: got %v, error %d; want %v", what, got, e, want)
	}
}

// wrongs returns vague days that are not right.
func wrongs() []api.Vague {
	var all []api.Vague
	for _, x := range []struct {
		at int
		s  api.Span
	}{
		{0, span(206, 205)},
		{5, span(214, 213)},
		{11, span(214, 212)},
		{0, span(-3001, 300)},
		{0, span(0, 3001)},
		{0, span(math.MinInt, math.MaxInt)},
		{1, span(203, 225)},
		{1, span(201, 223)},
		{6, span(205, 218)},
		{11, span(213, 215)},
		{11, span(211, 213)},
		{11, span(300, 300)},
	} {
		a, _ := examples()
		a.Spans[x.at] = x.s
		all = append(all, a)
	}
	return append(all, around(2990, 2990, 1), around(-2990, -2990, 1), steps(span(4, 4), 3, span(5, 5)), steps(span(4, 4), 11, span(3, 4)))
}

func TestCheck(t *testing.T) {
	a, b := examples()
	for _, x := range []api.Vague{a, b, {}, around(-3000, 3000, 0), around(3000, 3000, 0), around(-3000, -3000, 0), around(2989, 2989, 1), around(-2989, -2989, 1), steps(span(-3000, 3000), 11, span(3000, 3000)), steps(span(1, 9), 1, span(9, 9)), steps(span(1, 9), 11, span(1, 9))} {
		fails(t, "P2.1: a right vague day", about.Check(x), api.OK)
	}
	for _, x := range wrongs() {
		if e := about.Check(x); e != api.ErrArg {
			t.Errorf("P2.1: %v: error %d", x, e)
		}
	}
}

func TestSharp(t *testing.T) {
	for _, n := range []int{0, 3, -7, 3000, -3000} {
		x, e := about.Sharp(n)
		same(t, "P2.1: sharp", x, e, around(n, n, 0))
	}
	for _, n := range []int{3001, -3001, math.MaxInt, math.MinInt} {
		if x, e := about.Sharp(n); e != api.ErrArg || x != (api.Vague{}) {
			t.Errorf("P2.1: sharp of %d: %v, error %d", n, x, e)
		}
	}
}

func TestAround(t *testing.T) {
	for _, x := range []struct{ lo, hi, wider int }{
		{213, 213, 1}, {220, 222, 2}, {0, 0, 0}, {-5, 9, 0}, {-5, 9, 7}, {0, 0, 272}, {-3000, 3000, 0}, {2989, 2989, 1}, {-2989, 0, 1},
	} {
		a, e := about.Around(span(x.lo, x.hi), x.wider)
		same(t, "P2.1: around", a, e, around(x.lo, x.hi, x.wider))
		fails(t, "P2.11: around is right", about.Check(a), api.OK)
	}
	for _, x := range []struct {
		s     api.Span
		wider int
		e     api.Errno
	}{
		{span(5, 4), 0, api.ErrArg},
		{span(5, 4), 3000, api.ErrArg},
		{span(3001, 3001), 0, api.ErrArg},
		{span(0, 3001), 0, api.ErrArg},
		{span(-3001, 0), 0, api.ErrArg},
		{span(math.MinInt, 0), 1, api.ErrArg},
		{span(0, math.MaxInt), 1, api.ErrArg},
		{span(math.MaxInt, math.MinInt), 1, api.ErrArg},
		{span(0, 0), -1, api.ErrArg},
		{span(0, 0), 3001, api.ErrArg},
		{span(0, 0), math.MaxInt, api.ErrArg},
		{span(0, 0), math.MinInt, api.ErrArg},
		{span(0, 0), math.MaxInt/11 + 1, api.ErrArg},
		{span(2990, 2990), 3001, api.ErrArg},
		{span(2990, 2990), 1, api.ErrRange},
		{span(-2990, -2990), 1, api.ErrRange},
		{span(0, 0), 273, api.ErrRange},
		{span(0, 0), 3000, api.ErrRange},
	} {
		if a, e := about.Around(x.s, x.wider); e != x.e || a != (api.Vague{}) {
			t.Errorf("P2.1: around of %v and %d: %v, error %d, want %d", x.s, x.wider, a, e, x.e)
		}
	}
}

// cut reports a promise about a span of a degree.
func cut(t *testing.T, what string, a api.Vague, degree int, want api.Span) {
	t.Helper()
	if s, e := about.Cut(a, degree); e != api.OK || s != want {
		t.Errorf("%s: cut of degree %d: %v, error %d; want %v", what, degree, s, e, want)
	}
}

func TestCut(t *testing.T) {
	a, b := examples()
	cut(t, "P2.2", a, 12, span(213, 213))
	cut(t, "P2.2", a, 1, span(202, 224))
	cut(t, "P2.2", b, 9, span(214, 228))
	for d := 1; d <= 12; d++ {
		cut(t, "P2.2", b, d, b.Spans[d-1])
	}
	for _, d := range []int{0, 13, -1, math.MaxInt, math.MinInt} {
		if s, e := about.Cut(a, d); e != api.ErrArg || s != (api.Span{}) {
			t.Errorf("P2.2: cut of degree %d: %v, error %d", d, s, e)
		}
	}
}

func TestDegree(t *testing.T) {
	a, b := examples()
	for _, x := range []struct {
		a       api.Vague
		n, want int
	}{
		{a, 210, 9}, {a, 300, 0}, {a, 213, 12}, {a, 202, 1}, {a, 201, 0}, {a, 224, 1}, {a, 225, 0}, {a, 216, 9},
		{a, math.MaxInt, 0}, {a, math.MinInt, 0}, {a, 3001, 0}, {a, -3001, 0},
		{b, 221, 12}, {b, 223, 11}, {b, 225, 10}, {around(-3000, 3000, 0), -3000, 12}, {around(-3000, 3000, 0), 3000, 12},
		{steps(span(0, 9), 4, span(3, 5)), 6, 4}, {steps(span(0, 9), 4, span(3, 5)), 5, 12}, {api.Vague{}, 0, 12}, {api.Vague{}, 1, 0},
	} {
		if d, e := about.Degree(x.a, x.n); e != api.OK || d != x.want {
			t.Errorf("P2.2: degree of %d: %d, error %d; want %d", x.n, d, e, x.want)
		}
	}
}

func TestDegreeOfEachNumber(t *testing.T) {
	d := dice(3)
	for range 200 {
		a := d.vague(-8, 16)
		for n := -10; n <= 10; n++ {
			degree, e := about.Degree(a, n)
			for k := 1; k <= 12; k++ {
				s, f := about.Cut(a, k)
				if e != api.OK || f != api.OK || (degree >= k) != (s.Lo <= n && n <= s.Hi) {
					t.Fatalf("P2.11: %v: degree of %d is %d, and the span of %d is %v", a, n, degree, k, s)
				}
			}
		}
	}
}

// twos are the functions that make a vague day of two.
type two struct {
	name string
	do   func(a, b api.Vague) (api.Vague, api.Errno)
}

func twos() []two {
	return []two{{"Plus", about.Plus}, {"Less", about.Less}, {"Hull", about.Hull}, {"Both", func(a, b api.Vague) (api.Vague, api.Errno) {
		x, _, e := about.Both(a, b)
		return x, e
	}}}
}

// results returns the least and the greatest of what is made of each number of a span, and each of another one, and whether it is all between.
func results(s, t api.Span, made func(x, y int) int) (api.Span, bool) {
	got := map[int]bool{}
	r := span(math.MaxInt, math.MinInt)
	for x := s.Lo; x <= s.Hi; x++ {
		for y := t.Lo; y <= t.Hi; y++ {
			n := made(x, y)
			got[n] = true
			r = span(min(r.Lo, n), max(r.Hi, n))
		}
	}
	return r, len(got) == r.Hi-r.Lo+1
}

func TestSums(t *testing.T) {
	d := dice(1)
	for range 1000 {
		a, b := d.vague(d.roll(20)-10, 8), d.vague(d.roll(20)-10, 8)
		for _, x := range []struct {
			two
			made func(x, y int) int
		}{{twos()[0], func(x, y int) int { return x + y }}, {twos()[1], func(x, y int) int { return x - y }}} {
			c, e := x.do(a, b)
			for i, s := range c.Spans {
				want, all := results(a.Spans[i], b.Spans[i], x.made)
				if e != api.OK || s != want || !all {
					t.Fatalf("P2.3, P2.12: %s of %v and %v: degree %d: %v, error %d; want %v", x.name, a, b, i+1, s, e, want)
				}
			}
		}
	}
}

func TestExamplesOfSums(t *testing.T) {
	a, b := examples()
	three, _ := about.Sharp(3)
	c, e := about.Plus(a, three)
	same(t, "P2.3: a plus 3", c, e, around(216, 216, 1))
	cut(t, "P2.3: a plus 3", c, 12, span(216, 216))
	c, e = about.Less(b, a)
	same(t, "P2.3: b less a", c, e, around(7, 9, 3))
	cut(t, "P2.3: b less a", c, 12, span(7, 9))
	cut(t, "P2.3: b less a", c, 11, span(4, 12))
}

func TestRangeOfSums(t *testing.T) {
	wide, one := around(-3000, 3000, 0), around(1, 1, 0)
	for _, x := range []struct {
		what string
		do   func(a, b api.Vague) (api.Vague, api.Errno)
		a, b api.Vague
		e    api.Errno
	}{
		{"plus", about.Plus, wide, api.Vague{}, api.OK},
		{"plus", about.Plus, around(2000, 2000, 0), around(1000, 1000, 0), api.OK},
		{"plus", about.Plus, around(2000, 2000, 0), around(1001, 1001, 0), api.ErrRange},
		{"plus", about.Plus, around(-2000, -2000, 0), around(-1000, -1000, 0), api.OK},
		{"plus", about.Plus, around(-2000, -2000, 0), around(-1001, -1001, 0), api.ErrRange},
		{"plus", about.Plus, wide, one, api.ErrRange},
		{"plus", about.Plus, steps(span(0, 3000), 1, span(5, 5)), steps(span(0, 1), 1, span(0, 0)), api.ErrRange},
		{"plus", about.Plus, steps(span(-3000, 0), 1, span(-5, -5)), steps(span(-1, 0), 1, span(0, 0)), api.ErrRange},
		{"less", about.Less, wide, api.Vague{}, api.OK},
		{"less", about.Less, around(2000, 2000, 0), around(-1000, -1000, 0), api.OK},
		{"less", about.Less, around(2000, 2000, 0), around(-1001, -1001, 0), api.ErrRange},
		{"less", about.Less, around(-2000, -2000, 0), around(1000, 1000, 0), api.OK},
		{"less", about.Less, around(-2000, -2000, 0), around(1001, 1001, 0), api.ErrRange},
		{"less", about.Less, wide, wide, api.ErrRange},
		{"hull", about.Hull, around(3000, 3000, 0), around(-3000, -3000, 0), api.OK},
	} {
		if c, e := x.do(x.a, x.b); e != x.e || e != api.OK && c != (api.Vague{}) {
			t.Errorf("P2.3: %s of %v and %v: %v, error %d, want %d", x.what, x.a, x.b, c, e, x.e)
		}
	}
}

func TestBoth(t *testing.T) {
	a, b := examples()
	c, n, e := about.Both(a, b)
	if e != api.OK || n != 9 {
		t.Error("P2.4: both of the example:", n, e)
	}
	for d := 9; d <= 12; d++ {
		cut(t, "P2.4: both", c, d, span(214, 216))
	}
	cut(t, "P2.4: both", c, 8, span(212, 217))
	cut(t, "P2.4: both", c, 1, span(202, 224))
	for _, x := range []struct {
		a, b, want api.Vague
		n          int
		e          api.Errno
	}{
		{a, a, a, 12, api.OK},
		{around(1, 2, 0), around(2, 3, 0), around(2, 2, 0), 12, api.OK},
		{around(2, 3, 0), around(1, 2, 0), around(2, 2, 0), 12, api.OK},
		{around(1, 1, 0), around(2, 2, 0), api.Vague{}, 0, api.ErrClash},
		{around(2, 2, 0), around(1, 1, 0), api.Vague{}, 0, api.ErrClash},
		{steps(span(1, 9), 1, span(2, 2)), steps(span(3, 12), 1, span(11, 11)), around(3, 9, 0), 1, api.OK},
		{steps(span(1, 9), 11, span(2, 2)), around(3, 12, 0), around(3, 9, 0), 11, api.OK},
	} {
		c, n, e := about.Both(x.a, x.b)
		if c != x.want || n != x.n || e != x.e {
			t.Errorf("P2.4: both of %v and %v: %v, %d, error %d; want %v, %d, %d", x.a, x.b, c, n, e, x.want, x.n, x.e)
		}
	}
}

// inSpan says whether a number lies in a span.
func inSpan(s api.Span, n int) bool { return s.Lo <= n && n <= s.Hi }

func TestBothNumberByNumber(t *testing.T) {
	d := dice(2)
	for range 2000 {
		a, b := d.vague(d.roll(20)-10, 12), d.vague(d.roll(20)-10, 12)
		c, n, e := about.Both(a, b)
		meets := 0
		for i := range 12 {
			var common []int
			for x := -10; x <= 25; x++ {
				if inSpan(a.Spans[i], x) && inSpan(b.Spans[i], x) {
					common = append(common, x)
					meets = i + 1
				}
			}
			if len(common) > 0 && c.Spans[i] != span(common[0], common[len(common)-1]) {
				t.Fatalf("P2.4, P2.13: both of %v and %v: %v, degree %d has %v", a, b, c, i+1, common)
			}
			if i > 0 && meets <= i && c.Spans[i] != c.Spans[i-1] {
				t.Fatalf("P2.4: both of %v and %v: %v, degree %d", a, b, c, i+1)
			}
		}
		if n != meets || (e == api.OK) != (meets > 0) || e != api.OK && e != api.ErrClash {
			t.Fatalf("P2.4: both of %v and %v: %v, %d, error %d; they meet to %d", a, b, c, n, e, meets)
		}
		for i := range n {
			if c.Spans[i].Lo < a.Spans[i].Lo || c.Spans[i].Hi > a.Spans[i].Hi {
				t.Fatalf("P2.13: both of %v and %v: %v is not held up to %d", a, b, c, n)
			}
		}
	}
}

func TestHullAndHolds(t *testing.T) {
	a, b := examples()
	c, e := about.Hull(a, b)
	cut(t, "P2.4: hull", c, 12, span(213, 222))
	cut(t, "P2.4: hull", c, 1, span(198, 244))
	fails(t, "P2.4: hull", e, api.OK)
	c, e = about.Hull(around(4, 4, 0), around(9, 9, 0))
	same(t, "P2.4: hull of two days apart", c, e, around(4, 9, 0))
	for _, x := range []struct {
		a, b api.Vague
		want bool
	}{
		{a, a, true}, {a, b, false}, {b, a, false},
		{around(5, 6, 1), around(5, 6, 2), true},
		{around(5, 6, 2), around(5, 6, 1), false},
		{around(5, 5, 1), around(4, 6, 1), true},
		{around(4, 6, 1), around(5, 5, 1), false},
		{around(4, 5, 0), around(5, 5, 0), false},
		{around(5, 6, 0), around(5, 5, 0), false},
		{steps(span(0, 9), 1, span(4, 4)), steps(span(1, 9), 1, span(4, 4)), false},
		{steps(span(0, 9), 1, span(4, 4)), steps(span(0, 8), 1, span(4, 4)), false},
		{steps(span(0, 9), 11, span(3, 4)), steps(span(0, 9), 11, span(4, 4)), false},
		{steps(span(0, 9), 11, span(4, 5)), steps(span(0, 9), 11, span(4, 4)), false},
		{steps(span(0, 9), 11, span(4, 4)), steps(span(0, 9), 11, span(4, 5)), true},
	} {
		if is, e := about.Holds(x.a, x.b); e != api.OK || is != x.want {
			t.Errorf("P2.4: %v lies in %v: %v, error %d", x.a, x.b, is, e)
		}
	}
}

// holds says whether Holds returns that a vague day lies within another one.
func holds(a, b api.Vague) bool {
	is, e := about.Holds(a, b)
	return is && e == api.OK
}

func TestHullNumberByNumber(t *testing.T) {
	d := dice(4)
	for range 2000 {
		a, b := d.vague(d.roll(20)-10, 12), d.vague(d.roll(20)-10, 12)
		c, e := about.Hull(a, b)
		for i, s := range c.Spans {
			if e != api.OK || s != span(min(a.Spans[i].Lo, b.Spans[i].Lo), max(a.Spans[i].Hi, b.Spans[i].Hi)) {
				t.Fatalf("P2.4: hull of %v and %v: %v, error %d", a, b, c, e)
			}
		}
		if !holds(a, c) || !holds(b, c) {
			t.Fatalf("P2.13: hull of %v and %v: %v does not hold both", a, b, c)
		}
		in := true
		for i, s := range a.Spans {
			in = in && b.Spans[i].Lo <= s.Lo && s.Hi <= b.Spans[i].Hi
		}
		if holds(a, b) != in {
			t.Fatalf("P2.4: %v lies in %v: %v", a, b, !in)
		}
		if n := d.narrower(a); !holds(n, a) || n != a && holds(a, n) {
			t.Fatalf("P2.4: %v and the narrower %v", a, n)
		}
	}
}

func TestNested(t *testing.T) {
	d := dice(5)
	for range 1000 {
		a, b := d.vague(d.roll(20)-10, 12), d.vague(d.roll(20)-10, 12)
		for _, x := range twos() {
			if c, e := x.do(a, b); e == api.OK && about.Check(c) != api.OK {
				t.Fatalf("P2.11: %s of %v and %v: %v", x.name, a, b, c)
			}
		}
		if c, e := about.Around(a.Spans[d.roll(12)], d.roll(272)); e != api.OK || about.Check(c) != api.OK {
			t.Fatalf("P2.11: around: %v, error %d", c, e)
		}
	}
}

func TestSumsInAnyOrder(t *testing.T) {
	d := dice(6)
	for range 1000 {
		a, b, c := d.vague(d.roll(20)-10, 12), d.vague(d.roll(20)-10, 12), d.vague(d.roll(20)-10, 12)
		for _, x := range []two{twos()[0], twos()[2]} {
			p, e := x.do(a, b)
			q, f := x.do(b, a)
			if e != api.OK || f != api.OK || p != q {
				t.Fatalf("P2.12: %s of %v and %v depends on their order", x.name, a, b)
			}
		}
		p, _ := about.Plus(a, b)
		p, e := about.Plus(p, c)
		q, _ := about.Plus(b, c)
		q, f := about.Plus(a, q)
		if e != api.OK || f != api.OK || p != q {
			t.Fatalf("P2.12: plus of %v, %v and %v depends on which come first", a, b, c)
		}
		r, _ := about.Less(a, b)
		r, e = about.Plus(r, b)
		if e != api.OK || !holds(a, r) {
			t.Fatalf("P2.12: plus of less of %v and %v: %v, error %d", a, b, r, e)
		}
	}
}

// call is a function with vague days, as one that returns whether all else than the error is zero.
type call struct {
	name string
	one  bool
	do   func(a, b api.Vague) (zero bool, e api.Errno)
}

// days makes what calls a function that returns a vague day.
func days(a api.Vague, e api.Errno) (bool, api.Errno) { return a == api.Vague{}, e }

// verdict makes what calls a function that returns a verdict.
func verdict(v api.Verdict, e api.Errno) (bool, api.Errno) { return v == api.Verdict{}, e }

// calls returns all functions with vague days. What else they are given is such that they would return another error than ErrArg, or no error at all.
func calls() []call {
	wrong := api.Verdict{Can: 77}
	return []call{
		{"Check", true, func(a, _ api.Vague) (bool, api.Errno) { return true, about.Check(a) }},
		{"Cut", true, func(a, _ api.Vague) (bool, api.Errno) {
			s, e := about.Cut(a, 12)
			return s == api.Span{}, e
		}},
		{"Degree", true, func(a, _ api.Vague) (bool, api.Errno) {
			d, e := about.Degree(a, 213)
			return d == 0, e
		}},
		{"Plus", false, func(a, b api.Vague) (bool, api.Errno) { return days(about.Plus(a, b)) }},
		{"Less", false, func(a, b api.Vague) (bool, api.Errno) { return days(about.Less(a, b)) }},
		{"Both", false, func(a, b api.Vague) (bool, api.Errno) {
			c, n, e := about.Both(a, b)
			return c == api.Vague{} && n == 0, e
		}},
		{"Hull", false, func(a, b api.Vague) (bool, api.Errno) { return days(about.Hull(a, b)) }},
		{"Holds", false, func(a, b api.Vague) (bool, api.Errno) {
			is, e := about.Holds(a, b)
			return !is, e
		}},
		{"Before", false, func(a, b api.Vague) (bool, api.Errno) { return verdict(about.Before(a, b)) }},
		{"CheckBefore", false, func(a, b api.Vague) (bool, api.Errno) { return true, about.CheckBefore(a, b, wrong) }},
		{"Near", false, func(a, b api.Vague) (bool, api.Errno) { return verdict(about.Near(a, b, 5)) }},
		{"CheckNear", false, func(a, b api.Vague) (bool, api.Errno) { return true, about.CheckNear(a, b, 5, wrong) }},
		{"In", true, func(a, _ api.Vague) (bool, api.Errno) { return verdict(about.In(a, span(0, 300))) }},
		{"CheckIn", true, func(a, _ api.Vague) (bool, api.Errno) { return true, about.CheckIn(a, span(0, 300), wrong) }},
	}
}

func TestErrorsOfVagueDays(t *testing.T) {
	a, b := examples()
	// Days whose sum and difference are out of range, and on which Both clashes: that they are wrong goes first.
	far, farther := around(3000, 3000, 0), around(-3000, -3000, 0)
	farther.Spans[11].Lo--
	for _, c := range calls() {
		if _, e := c.do(a, b); e == api.ErrArg {
			t.Errorf("P2.1 to P2.7: %s of right vague days: error %d", c.name, e)
		}
		for _, wrong := range wrongs() {
			if zero, e := c.do(wrong, b); e != api.ErrArg || !zero {
				t.Errorf("P2.1 to P2.7: %s of %v: error %d, zero %v", c.name, wrong, e, zero)
			}
			if zero, e := c.do(a, wrong); !c.one && (e != api.ErrArg || !zero) {
				t.Errorf("P2.3 to P2.6: %s of a right one and %v: error %d, zero %v", c.name, wrong, e, zero)
			}
		}
		if zero, e := c.do(far, farther); !c.one && (e != api.ErrArg || !zero) {
			t.Errorf("P2.3 to P2.6: %s of days far apart, one wrong: error %d, zero %v", c.name, e, zero)
		}
		if zero, e := c.do(farther, far); e != api.ErrArg || !zero {
			t.Errorf("P2.1 to P2.7: %s of days far apart, the first one wrong: error %d, zero %v", c.name, e, zero)
		}
	}
}
