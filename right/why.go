package right

import (
	"cmp"
	"slices"

	"potence/api"
)

// first returns the rule by which a claim that is granted, but not given, came to be so first.
func (t *court) first(x api.Claim) int {
	var granted []int
	for _, i := range t.said[x] {
		if t.rules[i].Is == api.Granted {
			granted = append(granted, i)
		}
	}
	return slices.MinFunc(granted, t.inOrder)
}

// inOrder compares two rules by their rounds, and then by their indices.
func (t *court) inOrder(a, b int) int {
	return cmp.Or(cmp.Compare(t.rules[a].Round, t.rules[b].Round), cmp.Compare(a, b))
}

// why returns the rules by which a claim that is granted came to be so.
func (t *court) why(x api.Claim) []int {
	needed := map[int]bool{}
	var need func(x api.Claim)
	need = func(x api.Claim) {
		if t.given[x] {
			return
		}
		i := t.first(x)
		if needed[i] {
			return
		}
		needed[i] = true
		for _, y := range t.code.Rules[i].If {
			need(y)
		}
	}
	need(x)
	l := sorted(needed)
	slices.SortFunc(l, t.inOrder)
	return l
}

// Why returns rules by which a claim is granted.
func Why(c api.Code, day, known int, x api.Claim) ([]int, api.Errno) {
	if e := checkClaim(c, x, day, known); e != api.OK {
		return nil, e
	}
	t := judged(c, day, known)
	if t.is(x) != api.Granted {
		return nil, api.ErrNone
	}
	return t.why(x), api.OK
}

// explains says whether rules are an explanation of a claim.
func (t *court) explains(x api.Claim, rules []int) bool {
	so := map[api.Claim]bool{}
	for n, i := range rules {
		if slices.Contains(rules[:n], i) || t.rules[i].Is != api.Granted {
			return false
		}
		r := t.code.Rules[i]
		for _, y := range r.If {
			if !t.given[y] && !so[y] {
				return false
			}
		}
		so[r.Says] = true
	}
	if t.given[x] {
		return true
	}
	return len(rules) > 0 && t.code.Rules[rules[len(rules)-1]].Says == x
}

// CheckWhy returns OK if a claim is granted by some rules.
func CheckWhy(c api.Code, day, known int, x api.Claim, rules []int) api.Errno {
	if e := checkDays(c, day, known); e != api.OK {
		return e
	}
	if !areIndices(c, rules) {
		return api.ErrArg
	}
	if e := checkClaim(c, x); e != api.OK {
		return e
	}
	if len(rules) > api.MaxWhy {
		return api.ErrLimit
	}
	if !judged(c, day, known).explains(x, rules) {
		return api.ErrProof
	}
	return api.OK
}
