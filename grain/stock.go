package grain

import (
	"iter"

	"potence/api"
)

// lot is what is left of the grain that was bought on a day.
type lot struct{ day, bushels int }

// queue is lots, the oldest one first.
type queue []lot

// bushels returns how much all lots are.
func (q *queue) bushels() int {
	sum := 0
	for _, l := range *q {
		sum += l.bushels
	}
	return sum
}

// put adds a lot that is younger than all others.
func (q *queue) put(l lot) { *q = append(*q, l) }

// take takes so many bushels, the oldest ones first, or all, and returns how many these are.
func (q *queue) take(bushels int) int {
	taken := 0
	for taken < bushels && len(*q) > 0 {
		first := (*q)[0]
		n := min(first.bushels, bushels-taken)
		taken += n
		if n == first.bushels {
			*q = (*q)[1:]
		} else {
			(*q)[0].bushels -= n
		}
	}
	return taken
}

// drop takes what is left of a day's lot if this is the oldest one, and returns how many bushels that is.
func (q *queue) drop(day int) int {
	if len(*q) == 0 || (*q)[0].day != day {
		return 0
	}
	return q.take((*q)[0].bushels)
}

// store is what lies in a barn behind a day, how much has gone bad up to it, and how much less there was on it than was fed.
type store struct {
	queue
	bad, lack int
}

// flow is how many bushels are bought and fed on a day.
type flow struct{ bought, fed int }

// flows returns what is bought and fed on each day of a ledger.
func flows(l []api.Line) map[int]flow {
	days := map[int]flow{}
	for _, line := range l {
		day := days[line.Day]
		switch line.Kind {
		case buy:
			day.bought += line.Bushels
		case feed:
			day.fed += line.Bushels
		}
		days[line.Day] = day
	}
	return days
}

// behind yields each day, and what there is in the barn behind it.
func behind(l []api.Line, keep int) iter.Seq2[int, *store] {
	return func(yield func(int, *store) bool) {
		days := flows(l)
		s := &store{}
		for day := range api.MaxDay + 1 {
			now := days[day]
			gone := s.drop(day - keep - 1)
			if now.bought > 0 {
				s.put(lot{day, now.bought})
			}
			taken := s.take(now.fed)
			s.bad, s.lack = s.bad+gone, now.fed-taken
			if !yield(day, s) {
				return
			}
		}
	}
}

// checkStore returns the first error of a ledger with how long grain keeps.
func checkStore(l []api.Line, keep int) api.Errno {
	if e := CheckLines(l); e != api.OK {
		return e
	}
	if !isFrom(0, keep, api.MaxKeep) {
		return api.ErrArg
	}
	return api.OK
}

// Stock returns how many bushels lie in the barn behind a day, and how many have gone bad.
func Stock(l []api.Line, keep, day int) (int, int, api.Errno) {
	if e := checkStore(l, keep); e != api.OK {
		return 0, 0, e
	}
	for d, s := range behind(l, keep) {
		if d == day {
			return s.bushels(), s.bad, api.OK
		}
	}
	return 0, 0, api.ErrArg // none of the days is this one
}

// Short returns the first day on which a ledger feeds more than there is.
func Short(l []api.Line, keep int) (int, bool, api.Errno) {
	if e := checkStore(l, keep); e != api.OK {
		return 0, false, e
	}
	for day, s := range behind(l, keep) {
		if s.lack > 0 {
			return day, true, api.OK
		}
	}
	return 0, false, api.OK
}
