package right

import "potence/api"

// ready says whether all conditions of a rule are granted.
func (t *court) ready(rule int) bool {
	for _, x := range t.code.Rules[rule].If {
		if t.claims[x].Is != api.Granted {
			return false
		}
	}
	return true
}

// Disputed returns the rules that are open, though all of their conditions are granted.
func Disputed(c api.Code, day, known int) ([]int, api.Errno) {
	if e := checkDays(c, day, known); e != api.OK {
		return nil, e
	}
	t := judged(c, day, known)
	var l []int
	for i, s := range t.rules {
		if s.Is == api.Open && t.ready(i) {
			l = append(l, i)
		}
	}
	return l, api.OK
}

// gifts returns what the rules give together that are what a test wants.
func (t *court) gifts(wanted func(is int) bool) []api.Gift {
	birds := map[string]int{}
	for i, r := range t.code.Rules {
		if !wanted(t.rules[i].Is) {
			continue
		}
		for _, g := range r.Gifts {
			birds[g.Who] += g.Birds
		}
	}
	var l []api.Gift
	for _, who := range sorted(birds) {
		l = append(l, api.Gift{Who: who, Birds: birds[who]})
	}
	return l
}

// Gifts returns what is surely given, and what is possibly given.
func Gifts(c api.Code, day, known int) ([]api.Gift, []api.Gift, api.Errno) {
	if e := checkDays(c, day, known); e != api.OK {
		return nil, nil, e
	}
	t := judged(c, day, known)
	sure := t.gifts(func(is int) bool { return is == api.Granted })
	possible := t.gifts(func(is int) bool { return is != api.Denied })
	return sure, possible, api.OK
}
