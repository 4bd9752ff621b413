package share_test

import (
	"math"
	"reflect"
	"slices"
	"testing"

	"potence/api"
	"potence/share"
)

func TestWith(t *testing.T) {
	for _, s := range []api.Span{span(0, 0), span(0, 500), span(500, 500), span(2, 3)} {
		for i := range 7 {
			l, e := share.With(example(), i+1, s)
			want := changed(func(p []api.Perch) { p[i].Least, p[i].Most = s.Lo, s.Hi })
			if e != api.OK || !reflect.DeepEqual(l, want) {
				t.Errorf("P7.9: with %v for %d: %v, error %d", s, i+1, l, e)
			}
		}
	}
	l, e := share.With(example(), 7, span(0, 1))
	fails(t, "P7.9: With of the examples", e, api.OK)
	worths, e := share.Worths(l)
	same(t, "P7.3: Worths if 7 gives 0 to 1", worths, e, 17, 24, 31, 37, 35)
	l, e = share.With(broken(), 5, span(4, 4))
	if e != api.OK || !reflect.DeepEqual(l, broken()) {
		t.Error("P7.9: with the same, and no taking:", l, e)
	}
	for _, s := range []api.Span{span(-1, 3), span(3, 2), span(0, 501), span(501, 501), span(-2, -1), span(0, -1), span(math.MinInt, math.MaxInt), span(math.MaxInt, math.MinInt), span(500, 0)} {
		for perch := range 7 {
			for _, c := range named(input{perch: perch + 1, s: s}, "With") {
				failsAt(t, "P7.9", "no span", c, example(), api.ErrArg)
			}
		}
	}
}

func TestWithout(t *testing.T) {
	p := example().Perches
	above := func(p api.Perch, at int) api.Perch {
		p.Above = at
		return p
	}
	for perch, want := range [][]api.Perch{
		2: {p[0], above(p[2], 0), above(p[5], 1), above(p[6], 1)},
		3: {p[0], p[1], p[3], p[4]},
		4: {p[0], p[1], p[2], p[4], p[5], p[6]},
		5: {p[0], p[1], p[2], p[3], p[5], p[6]},
		6: {p[0], p[1], p[2], p[3], p[4], p[6]},
		7: {p[0], p[1], p[2], p[3], p[4], p[5]},
	} {
		if perch < 2 {
			continue
		}
		l, e := share.Without(example(), perch)
		if e != api.OK || !reflect.DeepEqual(l.Perches, want) {
			t.Errorf("P7.9: without %d: %v, error %d", perch, l, e)
		}
	}
	for _, l := range lofts() {
		for _, c := range named(input{perch: l.Perches[0].ID}, "Without") {
			failsAt(t, "P7.9", "the first perch", c, l, api.ErrArg)
		}
	}
}

func TestWithoutAllWithin(t *testing.T) {
	for n := 1; n < 40; n++ {
		l, e := share.Without(great(true), api.MaxID-n)
		want := great(true).Perches[:n]
		if e != api.OK || !reflect.DeepEqual(l.Perches, want) {
			t.Errorf("P7.9: without %d perches that lie in each other: %v, error %d", 40-n, l, e)
		}
		s, e := share.Limits(l, api.MaxID-n+1)
		is(t, "P7.9: a perch in which no other one lies any more", s, e, span(0, 0))
	}
	l, _ := share.Without(example(), 6)
	l, e := share.Without(l, 7)
	fails(t, "P7.9: without two holes", e, api.OK)
	worths, e := share.Worths(l)
	same(t, "P7.9: Worths of what is left", worths, e, 9, 16, 23)
}

// isIn says whether a perch lies in another one, directly or not, or is it.
func isIn(l api.Loft, at, in int) bool {
	return at == in || at > 0 && isIn(l, l.Perches[at].Above, in)
}

// TestWithoutOfAllLofts looks, for each perch that is left, for the ID of the one in which it lies.
func TestWithoutOfAllLofts(t *testing.T) {
	d := dice(12)
	for range 800 {
		l := d.reordered(d.rolled())
		if len(l.Perches) == 1 {
			continue
		}
		at := 1 + d.roll(len(l.Perches)-1)
		less, e := share.Without(l, l.Perches[at].ID)
		if e != api.OK || share.Check(less) != api.OK {
			t.Fatalf("P7.9: without %d of %v: %v, error %d", at, l, less, e)
		}
		i := 0
		for j, p := range l.Perches {
			if isIn(l, j, at) {
				continue
			}
			if i == len(less.Perches) {
				t.Fatalf("P7.9: without %d of %v too few are left: %v", at, l, less)
			}
			q := less.Perches[i]
			if j > 0 && less.Perches[q.Above].ID != l.Perches[p.Above].ID || q.ID != p.ID || q.Least != p.Least || q.Most != p.Most || !slices.Equal(q.Worths, p.Worths) {
				t.Fatalf("P7.9: without %d of %v: %v", at, l, less)
			}
			i++
		}
		if i != len(less.Perches) {
			t.Fatalf("P7.9: without %d of %v too many are left: %v", at, l, less)
		}
	}
}

// spread returns a list behind which, up to its capacity, there is something, and the whole of it.
func spread[T any](l []T, x T) ([]T, []T) {
	all := append(slices.Clone(l), x, x)
	return all[:len(l)], all
}

// inputsOf returns what functions with a loft can be given beside it.
func inputsOf(l api.Loft) []input {
	var all []input
	s, _ := share.Range(l)
	for _, birds := range []int{s.Lo, (s.Lo + s.Hi) / 2, s.Hi, -1} {
		x, _ := share.Best(l, birds)
		for _, p := range []api.Perch{l.Perches[0], l.Perches[len(l.Perches)-1], l.Perches[len(l.Perches)/2]} {
			all = append(all, input{birds, p.ID, span(p.Least, p.Most), x})
		}
	}
	return all
}

// backed returns a loft whose lists have something behind them, up to their capacity, and another one with all of these.
func backed(l api.Loft) (api.Loft, api.Loft) {
	l = cloned(l)
	whole := cloned(l)
	for i, p := range l.Perches {
		l.Perches[i].Worths, whole.Perches[i].Worths = spread(p.Worths, 77)
	}
	seen, all := spread(l.Perches, api.Perch{ID: 99})
	for i := range whole.Perches {
		whole.Perches[i].ID = l.Perches[i].ID
	}
	whole.Perches = append(whole.Perches, all[len(seen):]...)
	return api.Loft{Perches: seen}, whole
}

func TestArgumentsStayTheSame(t *testing.T) {
	for _, made := range lofts() {
		for _, x := range inputsOf(made) {
			l, whole := backed(made)
			before, same := cloned(whole), cloned(l)
			var given, prices []int
			x.t.Given, given = spread(x.t.Given, 99)
			x.t.Prices, prices = spread(x.t.Prices, 99)
			givenBefore, pricesBefore := slices.Clone(given), slices.Clone(prices)
			for _, c := range calls(x) {
				c.do(l)
				if !reflect.DeepEqual(whole, before) || !reflect.DeepEqual(cloned(l), same) || l.Perches[:len(l.Perches)+1][len(l.Perches)].ID != 99 {
					t.Fatalf("R6: %s: the loft was %v, and is %v", c.name, before, whole)
				}
				if !slices.Equal(given, givenBefore) || !slices.Equal(prices, pricesBefore) {
					t.Fatalf("R6: %s: the taking is %v, %v", c.name, given, prices)
				}
			}
		}
	}
}

// spoil changes all that is in the lists of a result.
func spoil(v reflect.Value) {
	switch v.Kind() {
	case reflect.Slice:
		for i := range v.Len() {
			spoil(v.Index(i))
		}
	case reflect.Struct:
		for i := range v.NumField() {
			spoil(v.Field(i))
		}
	case reflect.Int:
		if v.CanSet() {
			v.SetInt(v.Int() - 1000)
		}
	}
}

func TestResultsAreNew(t *testing.T) {
	for _, l := range lofts() {
		for _, x := range inputsOf(l) {
			for _, c := range calls(x) {
				whole := cloned(l)
				taken := api.Taken{Given: slices.Clone(x.t.Given), Worth: x.t.Worth, Prices: slices.Clone(x.t.Prices)}
				first, e := c.do(l)
				for _, y := range first {
					spoil(reflect.ValueOf(y))
				}
				if !reflect.DeepEqual(l, whole) || !slices.Equal(x.t.Given, taken.Given) || !slices.Equal(x.t.Prices, taken.Prices) {
					t.Fatalf("R6: %s shares memory with %v, or %v", c.name, l, x.t)
				}
				second, f := c.do(l)
				third, g := c.do(whole)
				if e != f || f != g || !reflect.DeepEqual(second, third) {
					t.Fatalf("R7: %s: %v, and %v of the same, errors %d, %d and %d", c.name, second, third, e, f, g)
				}
			}
		}
	}
}

// lists appends the first elements of all lists in a result, by their addresses.
func lists(v reflect.Value, all []uintptr) []uintptr {
	switch v.Kind() {
	case reflect.Slice:
		if v.Len() > 0 {
			all = append(all, v.Pointer())
		}
		for i := range v.Len() {
			all = lists(v.Index(i), all)
		}
	case reflect.Struct:
		for i := range v.NumField() {
			all = lists(v.Field(i), all)
		}
	}
	return all
}

func TestListsOfResultsAreTheirOwn(t *testing.T) {
	for _, l := range lofts() {
		// Worths of the same memory in the argument
		for i, p := range l.Perches {
			if i > 0 && len(p.Worths) == len(l.Perches[i-1].Worths) {
				l.Perches[i].Worths = l.Perches[i-1].Worths
			}
		}
		for _, x := range inputsOf(l) {
			for _, c := range calls(x) {
				got, _ := c.do(l)
				var all []uintptr
				for _, y := range got {
					all = lists(reflect.ValueOf(y), all)
				}
				if slices.Sort(all); len(slices.Compact(slices.Clone(all))) != len(all) {
					t.Errorf("R6: %s: lists of a result share memory: %+v", c.name, got)
				}
			}
		}
	}
}
