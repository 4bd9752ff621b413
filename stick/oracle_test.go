package stick_test

import (
	"slices"

	"potence/api"
)

// dice are numbers that are the same in each run.
type dice uint64

// roll returns a number less than n.
func (d *dice) roll(n int) int {
	*d = *d*6364136223846793005 + 1442695040888963407
	return int(uint64(*d)>>33) % n
}

// shuffle brings a list into some order.
func shuffle[T any](d *dice, l []T) {
	for i := range l {
		j := i + d.roll(len(l)-i)
		l[i], l[j] = l[j], l[i]
	}
}

// notched returns some notches of so many places.
func (d *dice) notched(places int) []bool {
	var x []bool
	for range places {
		x = append(x, d.roll(2) == 1)
	}
	return x
}

// group returns some places; the greater the number, the fewer.
func (d *dice) group(places, few int) []int {
	var l []int
	for p := range places {
		if d.roll(few) == 0 {
			l = append(l, p)
		}
	}
	return l
}

// truly returns so many notes that are true of some notches, with IDs in some order.
func (d *dice) truly(notched []bool, notes, few int) api.Stick {
	s := api.Stick{Places: len(notched)}
	var ids []int
	for i := range notes {
		ids = append(ids, 3*i+1+d.roll(3))
	}
	shuffle(d, ids)
	for _, id := range ids {
		places := d.group(s.Places, few)
		s.Notes = append(s.Notes, api.Note{ID: id, Places: places, Odd: isOdd(notched, places)})
	}
	return s
}

// rolled returns some small stick, of at most so many places and notes, of which at most so many are turned round.
func (d *dice) rolled(places, notes, wrong int) api.Stick {
	s := d.truly(d.notched(1+d.roll(places)), d.roll(notes+1), 2+d.roll(3))
	for range d.roll(wrong + 1) {
		if len(s.Notes) > 0 {
			n := &s.Notes[d.roll(len(s.Notes))]
			n.Odd = !n.Odd
		}
	}
	return s
}

// isOdd says whether an odd number of some places is notched.
func isOdd(notched []bool, places []int) bool {
	odd := false
	for _, p := range places {
		if notched[p] {
			odd = !odd
		}
	}
	return odd
}

// misfits returns the IDs of the notes that notches do not fit, in the order of the notes.
func misfits(s api.Stick, notched []bool) []int {
	var ids []int
	for _, n := range s.Notes {
		if isOdd(notched, n.Places) != n.Odd {
			ids = append(ids, n.ID)
		}
	}
	return ids
}

// subsets returns all parts of a list that is in increasing order, the smaller ones first, and those of one size as lists in order.
func subsets(l []int) [][]int {
	var all [][]int
	for n := range 1 << len(l) {
		var part []int
		for i, x := range l {
			if n>>i&1 == 1 {
				part = append(part, x)
			}
		}
		all = append(all, part)
	}
	slices.SortFunc(all, func(a, b []int) int {
		if len(a) != len(b) {
			return len(a) - len(b)
		}
		return slices.Compare(a, b)
	})
	return all
}

// allNotches returns all notches of so many places, in order.
func allNotches(places int) [][]bool {
	if places == 0 {
		return [][]bool{nil}
	}
	var all [][]bool
	for _, first := range []bool{false, true} {
		for _, rest := range allNotches(places - 1) {
			all = append(all, append([]bool{first}, rest...))
		}
	}
	return all
}

// fitting returns all notches that fit a stick, in order.
func fitting(s api.Stick) [][]bool {
	return slices.DeleteFunc(allNotches(s.Places), func(x []bool) bool { return len(misfits(s, x)) > 0 })
}

// idsOf returns the IDs of the notes of a stick, in increasing order.
func idsOf(s api.Stick) []int {
	var ids []int
	for _, n := range s.Notes {
		ids = append(ids, n.ID)
	}
	slices.Sort(ids)
	return ids
}

// upTo returns the numbers from 0 on, less than n.
func upTo(n int) []int {
	var l []int
	for i := range n {
		l = append(l, i)
	}
	return l
}

// sum returns the places that an odd number of some notes has, and whether an odd number of these is odd.
func sum(s api.Stick, ids []int) ([]int, bool) {
	times, odd := make([]int, s.Places), false
	for _, n := range s.Notes {
		if !slices.Contains(ids, n.ID) {
			continue
		}
		for _, p := range n.Places {
			times[p]++
		}
		odd = odd != n.Odd
	}
	var places []int
	for p, n := range times {
		if n%2 == 1 {
			places = append(places, p)
		}
	}
	return places, odd
}

// contradicts says whether some notes contradict each other.
func contradicts(s api.Stick, ids []int) bool {
	places, odd := sum(s, ids)
	return len(places) == 0 && odd
}

// shows says whether some notes show that a place is notched, or not.
func shows(s api.Stick, place int, notched bool, ids []int) bool {
	places, odd := sum(s, ids)
	return slices.Equal(places, []int{place}) && odd == notched
}

// cloned returns a stick in new memory.
func cloned(s api.Stick) api.Stick {
	s.Notes = slices.Clone(s.Notes)
	for i := range s.Notes {
		s.Notes[i].Places = slices.Clone(s.Notes[i].Places)
	}
	return s
}

// lacking returns a stick without some of its notes.
func lacking(s api.Stick, ids ...int) api.Stick {
	s = cloned(s)
	s.Notes = slices.DeleteFunc(s.Notes, func(n api.Note) bool { return slices.Contains(ids, n.ID) })
	return s
}

// more returns a stick with further notes.
func more(s api.Stick, notes ...api.Note) api.Stick {
	s = cloned(s)
	s.Notes = append(s.Notes, notes...)
	return cloned(s)
}

// turned returns a stick with some notes turned round.
func turned(s api.Stick, ids ...int) api.Stick {
	s = cloned(s)
	for i := range s.Notes {
		if slices.Contains(ids, s.Notes[i].ID) {
			s.Notes[i].Odd = !s.Notes[i].Odd
		}
	}
	return s
}

// agree says whether some notches fit a stick of any size: in turn, a note that has a place is added to all other ones that have it, and then left alone; what is left of the others must not say that none of no places are an odd number.
func agree(s api.Stick) bool {
	var rows [][]bool // a bool for each place, and behind them whether it is odd
	for _, n := range s.Notes {
		r := make([]bool, s.Places+1)
		for _, p := range n.Places {
			r[p] = true
		}
		r[s.Places] = n.Odd
		rows = append(rows, r)
	}
	for p := range s.Places {
		at := slices.IndexFunc(rows, func(r []bool) bool { return r[p] })
		if at < 0 {
			continue
		}
		own := rows[at]
		rows = slices.Delete(rows, at, at+1)
		for _, r := range rows {
			if r[p] {
				for i := range r {
					r[i] = r[i] != own[i]
				}
			}
		}
	}
	return !slices.ContainsFunc(rows, func(r []bool) bool { return r[s.Places] })
}

// can says whether some notches fit a stick of which an odd, or an even, number of some places is notched.
func can(s api.Stick, odd bool, places ...int) bool {
	return agree(more(s, api.Note{Places: places, Odd: odd}))
}

// firstFitting returns the first notches that fit a stick of any size whose notes agree: place by place, not notched if that can be.
func firstFitting(s api.Stick) []bool {
	x := make([]bool, s.Places)
	for p := range x {
		x[p] = !can(s, false, p)
		s = more(s, api.Note{Places: []int{p}, Odd: x[p]})
	}
	return x
}

// isTold says whether it is the same in all notches that fit whether an odd number of some places is notched.
func isTold(s api.Stick, places ...int) bool {
	return !can(s, false, places...) || !can(s, true, places...)
}

// apart returns in how many places notches differ.
func apart(a, b []bool) int {
	n := 0
	for i := range a {
		if a[i] != b[i] {
			n++
		}
	}
	return n
}
