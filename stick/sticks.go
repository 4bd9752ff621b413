package stick

import (
	"iter"
	"slices"

	"potence/api"
)

// byID returns notes by their IDs.
func byID(notes []api.Note) map[int]api.Note {
	named := map[int]api.Note{}
	for _, n := range notes {
		named[n.ID] = n
	}
	return named
}

// picked yields the notes of a stick with some IDs, or all others, in their order.
func picked(s api.Stick, ids []int, with bool) iter.Seq[api.Note] {
	return func(yield func(api.Note) bool) {
		for _, n := range s.Notes {
			_, is := slices.BinarySearch(ids, n.ID)
			if is == with && !yield(n) {
				return
			}
		}
	}
}

// put puts a note, in new memory, behind the notes of a stick.
func put(s *api.Stick, n api.Note) {
	n.Places = slices.Clone(n.Places)
	s.Notes = append(s.Notes, n)
}

// without returns a stick, in new memory, without the notes with some IDs.
func without(s api.Stick, ids []int) api.Stick {
	other := api.Stick{Places: s.Places}
	for n := range picked(s, ids, false) {
		put(&other, n)
	}
	return other
}

// checked returns a stick, or its first error.
func checked(s api.Stick) (api.Stick, api.Errno) {
	if e := Check(s); e != api.OK {
		return api.Stick{}, e
	}
	return s, api.OK
}

// Add returns a stick with a further note.
func Add(s api.Stick, n api.Note) (api.Stick, api.Errno) {
	if e := Check(s); e != api.OK {
		return api.Stick{}, e
	}
	more := without(s, nil)
	put(&more, n)
	return checked(more)
}

// Without returns a stick without some notes.
func Without(s api.Stick, ids []int) (api.Stick, api.Errno) {
	if e := checkIDs(s, ids); e != api.OK {
		return api.Stick{}, e
	}
	return without(s, ids), api.OK
}

// checkSticks returns the first error of sticks that are to be joined.
func checkSticks(l []api.Stick) api.Errno {
	if len(l) > api.MaxSticks {
		return api.ErrLimit
	}
	if len(l) == 0 {
		return api.ErrArg
	}
	for _, s := range l {
		if e := Check(s); e != api.OK {
			return e
		}
	}
	for _, s := range l {
		if s.Places != l[0].Places {
			return api.ErrArg
		}
	}
	return api.OK
}

// isSame says whether two notes are the same.
func isSame(a, b api.Note) bool {
	return a.ID == b.ID && a.Odd == b.Odd && slices.Equal(a.Places, b.Places)
}

// Join returns a stick with all notes of several ones.
func Join(l []api.Stick) (api.Stick, api.Errno) {
	if e := checkSticks(l); e != api.OK {
		return api.Stick{}, e
	}
	all := api.Stick{Places: l[0].Places}
	told := map[int]api.Note{}
	for _, s := range l {
		for _, n := range s.Notes {
			same, is := told[n.ID]
			if is && !isSame(same, n) {
				return api.Stick{}, api.ErrClash
			}
			if !is {
				told[n.ID] = n
				put(&all, n)
			}
		}
	}
	return checked(all)
}

// beyond yields, for each note of a stick, the first notches that fit a stick a, and do not fit this note, if there are some: those that fit a with the opposite of the note.
func beyond(a, b api.Stick) iter.Seq[uint64] {
	return func(yield func(uint64) bool) {
		for _, n := range b.Notes {
			opposite := without(a, nil)
			put(&opposite, api.Note{Places: n.Places, Odd: !n.Odd})
			x := newBasis(opposite)
			if _, is := x.clash(); !is && !yield(x.fit(0)) {
				return
			}
		}
	}
}

// Within returns notches that fit one stick, and not another one.
func Within(a, b api.Stick) ([]bool, bool, api.Errno) {
	for _, s := range []api.Stick{a, b} {
		if e := Check(s); e != api.OK {
			return nil, false, e
		}
	}
	if a.Places != b.Places {
		return nil, false, api.ErrArg
	}
	x, is := first(beyond(a, b), inOrder)
	if is {
		return notches(x, a.Places), false, api.OK
	}
	return nil, true, api.OK
}
