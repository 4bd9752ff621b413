package stick

import (
	"cmp"
	"math/bits"

	"potence/api"
)

// maxFree is how many places at most may be free to be chosen where all notches that fit are looked at.
const maxFree = 12

// Find returns the first notches that are as all notes say. A place is told by places ahead of it, so that these are those of which no place is notched that can be chosen.
func Find(s api.Stick) ([]bool, api.Errno) {
	b, e := agreed(s)
	if e != api.OK {
		return nil, e
	}
	return notches(b.fit(0), s.Places), api.OK
}

// Free returns how many places can be notched at will.
func Free(s api.Stick) (int, api.Errno) {
	b, e := agreed(s)
	if e != api.OK {
		return 0, e
	}
	return bits.OnesCount64(b.free()), api.OK
}

// Sure returns the places of which it is sure whether they are notched.
func Sure(s api.Stick) ([]api.Notch, api.Errno) {
	b, e := agreed(s)
	if e != api.OK {
		return nil, e
	}
	var sure []api.Notch
	for p := range s.Places {
		if r, is := b.told(p); is {
			sure = append(sure, api.Notch{Place: p, Notched: r.odd()})
		}
	}
	return sure, api.OK
}

// Shows returns notes that show whether a place is notched.
func Shows(s api.Stick, place int) ([]int, bool, api.Errno) {
	if e := checkPlaces(s, place); e != api.OK {
		return nil, false, e
	}
	b, e := agreed(s)
	if e != api.OK {
		return nil, false, e
	}
	r, is := b.told(place)
	if !is {
		return nil, false, api.ErrNone
	}
	return b.ids(r), r.odd(), api.OK
}

// Tells returns whether it is sure that an odd number of places is notched, or an even one.
func Tells(s api.Stick, places []int) (bool, bool, api.Errno) {
	if e := checkPlaces(s, places...); e != api.OK {
		return false, false, e
	}
	b, e := agreed(s)
	if e != api.OK {
		return false, false, e
	}
	r, is := b.told(places...)
	return is, r.odd(), api.OK
}

// Ask returns places to look at, so that all is sure afterwards.
func Ask(s api.Stick) ([]int, api.Errno) {
	b, e := agreed(s)
	if e != api.OK {
		return nil, e
	}
	var ask []int
	for p, is := range notches(b.free(), s.Places) {
		if is {
			ask = append(ask, p)
		}
	}
	return ask, api.OK
}

// Nearest returns the notches that fit, and differ in the fewest places from others.
func Nearest(s api.Stick, notched []bool) ([]bool, int, api.Errno) {
	if e := checkNotched(s, notched); e != api.OK {
		return nil, 0, e
	}
	b, e := agreed(s)
	if e != api.OK {
		return nil, 0, e
	}
	if bits.OnesCount64(b.free()) > maxFree {
		return nil, 0, api.ErrLimit
	}
	from := marks(notched)
	apart := func(x uint64) int { return bits.OnesCount64(x ^ from) }
	near, _ := first(b.all(), func(x, y uint64) int {
		return cmp.Or(cmp.Compare(apart(x), apart(y)), inOrder(x, y))
	})
	return notches(near, s.Places), apart(near), api.OK
}
