package stick_test

import (
	"reflect"
	"slices"
	"testing"

	"potence/api"
	"potence/stick"
)

func TestAddAndWithout(t *testing.T) {
	for _, s := range sticks() {
		if len(s.Notes) == 60 {
			continue
		}
		for _, n := range []api.Note{note(500, true), note(500, false, 0), note(500, true, upTo(s.Places)...)} {
			with, e := stick.Add(s, n)
			isStick(t, "P9.9: Add", with, e, more(s, n))
			without, e := stick.Without(with, []int{500})
			isStick(t, "P9.9: Without of Add", without, e, s)
		}
	}
	s := example()
	for _, ids := range subsets(upTo(5)[1:]) {
		less, e := stick.Without(s, ids)
		isStick(t, "P9.9: Without", less, e, lacking(s, ids...))
	}
	less, e := stick.Without(great(), []int{1, 55, 100, 200, 311})
	isStick(t, "P9.9: Without", less, e, lacking(great(), 1, 55, 100, 200, 311))
	less, e = stick.Without(great(), idsOf(great()))
	isStick(t, "P9.9: Without all notes", less, e, single(48, 0))
}

func TestErrorsOfAdd(t *testing.T) {
	full := great()
	for _, x := range []struct {
		what string
		s    api.Stick
		n    api.Note
		e    api.Errno
	}{
		{"a note too many", full, note(5000, true, 0), api.ErrLimit},
		{"a note too many that is none", full, note(0, true, 99), api.ErrLimit},
		{"a note too many that is there", full, note(1, true, 0), api.ErrLimit},
		{"no ID", broken(), note(0, true, 0), api.ErrArg},
		{"a great ID", broken(), note(api.MaxID+1, true, 0), api.ErrArg},
		{"no place", broken(), note(9, true, 5), api.ErrArg},
		{"a place twice", broken(), note(9, true, 1, 1), api.ErrArg},
		{"places that go down", broken(), note(9, true, 2, 1), api.ErrArg},
		{"an ID that is there, and no place", broken(), note(5, true, 5), api.ErrArg},
		{"an ID that is there", broken(), note(5, true, 0), api.ErrTwice},
		{"a note that is there", broken(), note(1, true, 0), api.ErrTwice},
	} {
		for _, c := range named(input{note: x.n}, "Add") {
			failsAt(t, "P9.9, R4", x.what, c, x.s, x.e)
		}
	}
}

func TestJoin(t *testing.T) {
	a := example()
	b := api.Stick{Places: 5, Notes: []api.Note{note(9, true, 1), note(3, true, 1, 2, 3), note(8, false), note(1, true, 0)}}
	c := api.Stick{Places: 5, Notes: []api.Note{note(8, false), note(7, false, 0), note(9, true, 1)}}
	all, e := stick.Join([]api.Stick{a, b, c})
	isStick(t, "P9.10: Join", all, e, more(a, note(9, true, 1), note(8, false), note(7, false, 0)))
	all, e = stick.Join([]api.Stick{c, b, a})
	isStick(t, "P9.10: Join the other way round", all, e, more(c, note(3, true, 1, 2, 3), note(1, true, 0), note(2, false, 0, 1), note(4, true, 3, 4)))
	for n := 1; n <= 6; n++ {
		all, e = stick.Join(slices.Repeat([]api.Stick{broken()}, n))
		isStick(t, "P9.10: Join of one stick", all, e, broken())
		all, e = stick.Join(slices.Repeat([]api.Stick{single(5, 0)}, n))
		isStick(t, "P9.10: Join of sticks without notes", all, e, single(5, 0))
		all, e = stick.Join(slices.Repeat([]api.Stick{great()}, n))
		isStick(t, "P9.10: Join of the greatest stick", all, e, great())
	}
}

func TestErrorsOfJoin(t *testing.T) {
	bad, long, odd := example(), example(), example()
	bad.Notes[0].Places = []int{5}
	long.Places = 6
	odd.Notes[0].Odd = false
	other := api.Stick{Places: 5, Notes: []api.Note{note(1, true, 0, 1)}}
	twice := more(example(), note(1, true, 0))
	half := func(from, to int) api.Stick {
		s := api.Stick{Places: 5}
		for id := from; id <= to; id++ {
			s.Notes = append(s.Notes, note(id, true, id%5))
		}
		return s
	}
	for _, x := range []struct {
		what string
		l    []api.Stick
		e    api.Errno
	}{
		{"seven sticks", slices.Repeat([]api.Stick{example()}, 7), api.ErrLimit},
		{"seven sticks that are none", make([]api.Stick, 7), api.ErrLimit},
		{"no sticks", nil, api.ErrArg},
		{"an empty list", []api.Stick{}, api.ErrArg},
		{"a stick that is none", []api.Stick{{}}, api.ErrArg},
		{"other places, then a note twice", []api.Stick{example(), long, twice}, api.ErrTwice},
		{"a note twice, then a place that is none", []api.Stick{example(), twice, bad}, api.ErrTwice},
		{"a place that is none, then a note twice", []api.Stick{example(), bad, twice}, api.ErrArg},
		{"other notes, then other places", []api.Stick{example(), odd, long}, api.ErrArg},
		{"other places", []api.Stick{example(), example(), example(), long}, api.ErrArg},
		{"other places first", []api.Stick{long, example()}, api.ErrArg},
		{"other places between", []api.Stick{example(), long, example()}, api.ErrArg},
		{"another parity", []api.Stick{example(), odd}, api.ErrClash},
		{"other places of a note", []api.Stick{example(), other}, api.ErrClash},
		{"another note in the last stick", []api.Stick{half(1, 3), half(11, 13), half(21, 23), half(31, 34), half(41, 42), {Places: 5, Notes: []api.Note{note(33, true, 4)}}}, api.ErrClash},
		{"the same note in the last stick", []api.Stick{half(1, 3), half(11, 13), half(21, 23), half(31, 34), half(41, 42), {Places: 5, Notes: []api.Note{note(33, true, 3)}}}, api.OK},
		{"60 notes", []api.Stick{half(1, 30), half(31, 60)}, api.OK},
		{"60 notes, some twice", []api.Stick{half(1, 40), half(21, 60), half(1, 60)}, api.OK},
		{"61 notes", []api.Stick{half(1, 30), half(31, 61)}, api.ErrLimit},
		{"61 notes, some twice", []api.Stick{half(1, 60), half(2, 61)}, api.ErrLimit},
		{"120 notes, then another one", []api.Stick{half(1, 60), half(61, 120), {Places: 5, Notes: []api.Note{note(7, false, 2)}}}, api.ErrClash},
	} {
		s, e := stick.Join(x.l)
		if fails(t, "P9.10: "+x.what, e, x.e); e != api.OK && !isZero(s) {
			t.Errorf("R4: Join of %s: %v", x.what, s)
		}
	}
}

// parted returns parts of a stick, each with some of its notes.
func (d *dice) parted(s api.Stick, parts int) []api.Stick {
	var l []api.Stick
	for range parts {
		p := api.Stick{Places: s.Places}
		for _, n := range s.Notes {
			if d.roll(2) == 0 {
				p.Notes = append(p.Notes, n)
			}
		}
		l = append(l, cloned(p))
	}
	return l
}

func TestWhatFitsJoin(t *testing.T) {
	d := dice(15)
	for range 500 {
		whole := d.rolled(6, 8, 2)
		l := d.parted(whole, 1+d.roll(6))
		all, e := stick.Join(l)
		want := api.Stick{Places: whole.Places}
		for _, s := range l {
			for _, n := range s.Notes {
				if !slices.Contains(idsOf(want), n.ID) {
					want.Notes = append(want.Notes, n)
				}
			}
		}
		isStick(t, "P9.10: Join", all, e, want)
		for _, x := range allNotches(whole.Places) {
			_, is, _ := stick.Fits(all, x)
			if is == slices.ContainsFunc(l, func(s api.Stick) bool { return len(misfits(s, x)) > 0 }) {
				t.Fatalf("P9.19: %v fits Join of %v: %v", x, l, is)
			}
		}
	}
}

func TestWithin(t *testing.T) {
	five := func(n ...api.Note) api.Stick { return api.Stick{Places: 5, Notes: n} }
	for _, x := range []struct {
		what   string
		a, b   api.Stick
		beyond string
	}{
		{"the example", example(), five(note(9, false, 2, 3)), ""},
		{"the opposite", example(), five(note(9, true, 2, 3)), "11001"},
		{"a place that is free", example(), five(note(9, false, 3)), "11110"},
		{"a place that is free, notched", example(), five(note(9, true, 3)), "11001"},
		{"what comes first", example(), five(note(9, false, 2), note(8, true, 2)), "11001"},
		{"what comes first, of two notes", example(), five(note(9, true, 0), note(7, false, 2), note(8, true, 4)), "11110"},
		{"itself", example(), example(), ""},
		{"no notes", example(), five(), ""},
		{"of no notes", five(), example(), "00000"},
		{"of no notes, with single ones", five(), five(note(1, false, 4)), "00001"},
		{"of no notes, with others", five(), five(note(1, false, 0), note(2, false, 3)), "00010"},
		{"nothing fits", broken(), five(note(9, true, 2, 3)), ""},
		{"nothing fits either", broken(), broken(), ""},
		{"nothing fits the other one", example(), broken(), "11001"},
		{"an empty note that is odd", example(), five(note(1, true)), "11001"},
		{"an empty note", example(), five(note(1, false)), ""},
		{"both without notes", five(), five(), ""},
	} {
		notched, is, e := stick.Within(x.a, x.b)
		same(t, "P9.11: Within: "+x.what, notched, e, bools(x.beyond)...)
		if is != (x.beyond == "") {
			t.Errorf("P9.11: Within: %s: %v", x.what, is)
		}
	}
	for _, places := range []int{4, 6, 48} {
		for _, s := range []api.Stick{example(), broken()} {
			for _, c := range named(input{other: single(places, 4)}, "Within", "Within the other one") {
				failsAt(t, "P9.11, R4", "other places", c, s, api.ErrArg)
			}
		}
	}
}

func TestWithinOfAllSticks(t *testing.T) {
	d := dice(16)
	kinds := map[bool]int{}
	for range 1500 {
		whole := d.rolled(6, 8, 1)
		l := d.parted(whole, 2)
		a, b := l[0], l[1]
		if d.roll(4) == 0 {
			a = whole
		}
		var want []bool
		all := fitting(a)
		if at := slices.IndexFunc(all, func(x []bool) bool { return len(misfits(b, x)) > 0 }); at >= 0 {
			want = all[at]
		}
		notched, is, e := stick.Within(a, b)
		if same(t, "P9.11: Within", notched, e, want...); is != (want == nil) || t.Failed() {
			t.Fatalf("P9.11: Within of %v and %v: %v, %v", a, b, notched, is)
		}
		kinds[is]++
		if !is || len(all) == 0 {
			continue
		}
		sureA, _ := stick.Sure(a)
		sureB, _ := stick.Sure(b)
		for _, n := range sureB {
			if !slices.Contains(sureA, n) {
				t.Fatalf("P9.19: %v is sure in %v, and not in %v", n, b, a)
			}
		}
	}
	if kinds[true] < 300 || kinds[false] < 300 {
		t.Error("the sticks are too much alike:", kinds)
	}
}

func TestWithinOfGreatSticks(t *testing.T) {
	d := dice(17)
	kinds := map[bool]int{}
	for range 150 {
		whole, _ := d.manyOf()
		a, b := whole, d.parted(whole, 1)[0]
		for range d.roll(2) {
			b.Notes = append(b.Notes, note(api.MaxID, d.roll(2) == 1, d.group(whole.Places, 4)...))
		}
		if stick.Check(b) != api.OK {
			continue
		}
		notched, is, e := stick.Within(a, b)
		var want []bool
		for _, n := range b.Notes {
			if x := more(a, note(n.ID, !n.Odd, n.Places...)); agree(x) {
				if x := firstFitting(x); want == nil || slices.Compare(ones(x), ones(want)) < 0 {
					want = x
				}
			}
		}
		if same(t, "P9.11: Within", notched, e, want...); is != (want == nil) || t.Failed() {
			t.Fatalf("P9.11: Within of %v and %v: %v, %v", a, b, notched, is)
		}
		kinds[is]++
	}
	if kinds[true] < 20 || kinds[false] < 20 {
		t.Error("the sticks are too much alike:", kinds)
	}
}

// spread returns a list behind which, up to its capacity, there is something, and the whole of it.
func spread[T any](l []T, x T) ([]T, []T) {
	all := append(slices.Clone(l), x, x)
	return all[:len(l)], all
}

// inputsOf returns what functions with a stick can be given beside it.
func inputsOf(s api.Stick) []input {
	var all []input
	places, ids := upTo(s.Places), idsOf(s)
	for _, n := range []int{0, 1, len(ids)} {
		all = append(all, input{
			place: s.Places / 2, places: places[:min(n, len(places))], ids: ids[:min(n, len(ids))],
			notched: make([]bool, s.Places), note: note(777, true, places...), other: single(s.Places, 1),
		})
	}
	return append(all, input{place: -1, places: []int{1, 0}, ids: []int{2, 1}, notched: []bool{true}, note: note(0, true, 7, 5, 7)})
}

func TestArgumentsStayTheSame(t *testing.T) {
	for _, made := range sticks() {
		for _, x := range inputsOf(made) {
			s := cloned(made)
			var notes []api.Note
			var places, asked, ids, further []int
			var notched []bool
			s.Notes, notes = spread(s.Notes, note(888, true, 3))
			if len(s.Notes) > 0 {
				s.Notes[0].Places, places = spread(s.Notes[0].Places, 99)
			}
			x.places, asked = spread(x.places, 99)
			x.ids, ids = spread(x.ids, 99)
			x.note.Places, further = spread(x.note.Places, 99)
			x.notched, notched = spread(x.notched, true)
			whole := []any{notes, places, asked, ids, further, notched}
			before := []any{cloned(api.Stick{Notes: notes}).Notes, slices.Clone(places), slices.Clone(asked), slices.Clone(ids), slices.Clone(further), slices.Clone(notched)}
			for _, c := range calls(x) {
				c.do(s)
				if !reflect.DeepEqual(whole, before) {
					t.Fatalf("R6: %s: the arguments are %v, and were %v", c.name, whole, before)
				}
			}
		}
	}
	places, whole := spread([]int{0, 2}, 99)
	groups, all := spread([][]int{places, nil}, []int{7})
	notched, marks := spread(bools("101"), true)
	stick.Cut(notched, groups)
	if !slices.Equal(whole, []int{0, 2, 99, 99}) || len(all[1]) > 0 || all[3][0] != 7 || !slices.Equal(marks, bools("10111")) {
		t.Error("R6: Cut: the arguments are", whole, all, marks)
	}
}

// spoil changes all that is in the lists of a result.
func spoil(v reflect.Value) {
	switch v.Kind() {
	case reflect.Slice:
		for i := range v.Len() {
			spoil(v.Index(i))
		}
	case reflect.Struct:
		for i := range v.NumField() {
			spoil(v.Field(i))
		}
	case reflect.Int:
		if v.CanSet() {
			v.SetInt(v.Int() - 1000)
		}
	case reflect.Bool:
		if v.CanSet() {
			v.SetBool(!v.Bool())
		}
	}
}

func TestResultsAreNew(t *testing.T) {
	for _, s := range sticks() {
		for _, x := range inputsOf(s) {
			for _, c := range calls(x) {
				whole, before := cloned(s), input{x.place, slices.Clone(x.places), slices.Clone(x.ids), slices.Clone(x.notched), more(single(1, 0), x.note).Notes[0], cloned(x.other)}
				first, e := c.do(s)
				for _, y := range first {
					spoil(reflect.ValueOf(y))
				}
				if !reflect.DeepEqual(s, whole) || !reflect.DeepEqual(x, before) {
					t.Fatalf("R6: %s shares memory with %v, or %v", c.name, s, x)
				}
				second, f := c.do(s)
				third, g := c.do(whole)
				if e != f || f != g || !reflect.DeepEqual(second, third) {
					t.Fatalf("R7: %s: %v, and %v of the same, errors %d, %d and %d", c.name, second, third, e, f, g)
				}
			}
		}
	}
	groups := [][]int{{0, 2}, {1}}
	s, _ := stick.Cut(bools("101"), groups)
	s.Notes[0].Places[0] = 7
	if groups[0][0] != 0 {
		t.Error("R6: Cut shares memory:", groups)
	}
}

func TestListsOfResultsAreTheirOwn(t *testing.T) {
	places := upTo(3)
	made := []func() (api.Stick, api.Errno){
		func() (api.Stick, api.Errno) { return stick.Cut(bools("101"), [][]int{places, places}) },
		func() (api.Stick, api.Errno) {
			return stick.Join([]api.Stick{{Places: 3, Notes: []api.Note{{ID: 1, Places: places}}}, {Places: 3, Notes: []api.Note{{ID: 2, Places: places}}}})
		},
		func() (api.Stick, api.Errno) {
			return stick.Add(api.Stick{Places: 3, Notes: []api.Note{{ID: 1, Places: places}}}, api.Note{ID: 2, Places: places})
		},
		func() (api.Stick, api.Errno) {
			return stick.Without(api.Stick{Places: 3, Notes: []api.Note{{ID: 1, Places: places}, {ID: 2, Places: places}}}, nil)
		},
	}
	for i, do := range made {
		s, e := do()
		if e != api.OK || len(s.Notes) != 2 {
			t.Fatal(i, s, e)
		}
		s.Notes[0].Places[0] = 2
		_ = append(s.Notes[0].Places, 9)
		if s.Notes[1].Places[0] != 0 || places[0] != 0 {
			t.Error("R6: lists of a result share memory:", i, s, places)
		}
	}
}
