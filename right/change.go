package right

import (
	"slices"

	"potence/api"
)

// except returns a list, in new memory, without the elements at some indices.
func except[T any](l []T, at ...int) []T {
	var rest []T
	for i, x := range l {
		if !slices.Contains(at, i) {
			rest = append(rest, x)
		}
	}
	return rest
}

// Rests returns the facts without each of which alone a claim is something else.
func Rests(c api.Code, day, known int, x api.Claim) ([]int, api.Errno) {
	if e := checkClaim(c, x, day, known); e != api.OK {
		return nil, e
	}
	is := judged(c, day, known).is(x)
	var l []int
	for i := range c.Facts {
		less := api.Code{Facts: except(c.Facts, i), Rules: c.Rules}
		if judged(less, day, known).is(x) != is {
			l = append(l, i)
		}
	}
	return l, api.OK
}

// agrees says whether all claims of a court are the same in another one.
func (t *court) agrees(other *court) bool {
	for x, s := range t.claims {
		if other.is(x) != s.Is {
			return false
		}
	}
	return true
}

// Moot returns the rules without each of which alone all claims are the same.
func Moot(c api.Code, day, known int) ([]int, api.Errno) {
	if e := checkDays(c, day, known); e != api.OK {
		return nil, e
	}
	whole := judged(c, day, known)
	var l []int
	for i := range c.Rules {
		less := api.Code{Facts: c.Facts, Rules: except(c.Rules, i)}
		if whole.agrees(judged(less, day, known)) {
			l = append(l, i)
		}
	}
	return l, api.OK
}

// turns returns the days from 1 to MaxDay on which a fact or a rule of a code begins, or has just ended, in increasing order.
func turns(c api.Code) []int {
	days := map[int]bool{}
	note := func(s api.Span) { days[s.Lo], days[s.Hi+1] = true, true }
	for _, f := range c.Facts {
		note(f.Days)
	}
	for _, r := range c.Rules {
		note(r.Days)
	}
	return slices.DeleteFunc(sorted(days), func(day int) bool { return day < 1 || day > api.MaxDay })
}

// Changes returns the days on which a claim is something else than the day before.
func Changes(c api.Code, known int, x api.Claim) ([]int, api.Errno) {
	if e := checkClaim(c, x, known); e != api.OK {
		return nil, e
	}
	before := judged(c, 0, known).is(x)
	var l []int
	// On all other days the same is given and in force as on the day before.
	for _, day := range turns(c) {
		now := judged(c, day, known).is(x)
		if now != before {
			l = append(l, day)
		}
		before = now
	}
	return l, api.OK
}

// copied returns a code in new memory.
func copied(c api.Code) api.Code {
	n := api.Code{Facts: slices.Clone(c.Facts), Rules: slices.Clone(c.Rules)}
	for i := range n.Rules {
		r := &n.Rules[i]
		r.If, r.Unless, r.Gifts = slices.Clone(r.If), slices.Clone(r.Unless), slices.Clone(r.Gifts)
	}
	return n
}

// Add returns a code with a further fact.
func Add(c api.Code, f api.Fact) (api.Code, api.Errno) {
	if e := Check(c); e != api.OK {
		return api.Code{}, e
	}
	more := copied(c)
	more.Facts = append(more.Facts, f)
	if e := Check(more); e != api.OK {
		return api.Code{}, e
	}
	return more, api.OK
}

// isIncreasing says whether each of some numbers is greater than the one before it.
func isIncreasing(numbers []int) bool {
	for i := 1; i < len(numbers); i++ {
		if numbers[i] <= numbers[i-1] {
			return false
		}
	}
	return true
}

// Without returns a code without some rules.
func Without(c api.Code, rules []int) (api.Code, api.Errno) {
	if e := Check(c); e != api.OK {
		return api.Code{}, e
	}
	if !areIndices(c, rules) || !isIncreasing(rules) {
		return api.Code{}, api.ErrArg
	}
	return copied(api.Code{Facts: c.Facts, Rules: except(c.Rules, rules...)}), api.OK
}
