package nest

import "potence/api"

// isPossible says whether a life is possible for a nest.
func isPossible(n api.Nest) bool { return newCourse(n).isPossible() }

// Suspects returns the looks and takings without each of which a life is possible.
func Suspects(n api.Nest) ([]int, api.Errno) {
	if e := Check(n); e != api.OK {
		return nil, e
	}
	if isPossible(n) {
		return nil, api.OK
	}
	var suspects []int
	for _, id := range ids(n) {
		if isPossible(without(n, []int{id})) {
			suspects = append(suspects, id)
		}
	}
	return suspects, api.OK
}

// Core returns looks that, with all takings, contradict each other, without any one of which they do not.
func Core(n api.Nest) ([]int, api.Errno) {
	if e := Check(n); e != api.OK {
		return nil, e
	}
	if isPossible(n) {
		return nil, api.OK
	}
	looks := ids(api.Nest{Peeps: n.Peeps})
	if !isPossible(without(n, looks)) {
		return nil, api.ErrNone
	}
	var core []int
	for _, id := range looks {
		if less := without(n, []int{id}); isPossible(less) {
			core = append(core, id)
		} else {
			n = less
		}
	}
	return core, api.OK
}
