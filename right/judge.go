package right

import (
	"slices"

	"potence/api"
)

// court finds what is granted and denied on a day, as known on a day.
type court struct {
	code   api.Code
	given  map[api.Claim]bool
	said   map[api.Claim][]int // by which rules in force
	rivals [][]int             // of each rule
	claims map[api.Claim]api.Stand
	rules  []api.Stand
}

// newCourt returns a court before its first round.
func newCourt(c api.Code, day, known int) *court {
	t := &court{
		code:   c,
		given:  facts(c, day, known),
		said:   map[api.Claim][]int{},
		claims: map[api.Claim]api.Stand{},
	}
	for thing := range occurs(c) {
		t.claims[api.Claim{Thing: thing}] = api.Stand{Is: api.Open}
		t.claims[api.Claim{Thing: thing, Not: true}] = api.Stand{Is: api.Open}
	}
	for _, r := range c.Rules {
		t.rivals = append(t.rivals, which(c.Rules, inForce(day), attacks(r)))
		t.rules = append(t.rules, api.Stand{Is: api.Denied})
	}
	for _, i := range which(c.Rules, inForce(day)) {
		x := c.Rules[i].Says
		t.said[x] = append(t.said[x], i)
		t.rules[i].Is = api.Open
	}
	return t
}

// claimNow returns what a claim becomes that is open.
func (t *court) claimNow(x api.Claim) int {
	if t.given[x] {
		return api.Granted
	}
	is := api.Denied
	for _, i := range t.said[x] {
		switch t.rules[i].Is {
		case api.Granted:
			return api.Granted
		case api.Open:
			is = api.Open
		}
	}
	return is
}

// claimsNow returns what the claims become that are open, but for those that stay so.
func (t *court) claimsNow() map[api.Claim]int {
	now := map[api.Claim]int{}
	for x, s := range t.claims {
		if s.Is != api.Open {
			continue
		}
		if is := t.claimNow(x); is != api.Open {
			now[x] = is
		}
	}
	return now
}

// against returns what it is for a rule that something else is granted or denied.
func against(is int) int {
	switch is {
	case api.Granted:
		return api.Denied
	case api.Denied:
		return api.Granted
	}
	return is
}

// needs returns of each thing that a rule needs whether it is granted to it, or denied.
func (t *court) needs(rule int) []int {
	r := t.code.Rules[rule]
	var l []int
	for _, x := range r.If {
		l = append(l, t.claims[x].Is)
	}
	for _, x := range r.Unless {
		l = append(l, against(t.claims[x].Is))
	}
	for _, i := range t.rivals[rule] {
		l = append(l, against(t.rules[i].Is))
	}
	if t.given[opposite(r.Says)] {
		l = append(l, api.Denied)
	}
	return l
}

// rulesNow returns what the rules become that are open, but for those that stay so.
func (t *court) rulesNow() map[int]int {
	now := map[int]int{}
rules:
	for i, s := range t.rules {
		if s.Is != api.Open {
			continue
		}
		waits := false
		for _, is := range t.needs(i) {
			switch is {
			case api.Denied:
				now[i] = api.Denied
				continue rules
			case api.Open:
				waits = true
			}
		}
		if !waits {
			now[i] = api.Granted
		}
	}
	return now
}

// judged returns a court behind its last round.
func judged(c api.Code, day, known int) *court {
	t := newCourt(c, day, known)
	for round := 1; ; round++ {
		// Both are found before either is written: a round looks at what was so behind those before it.
		claims, rules := t.claimsNow(), t.rulesNow()
		if len(claims)+len(rules) == 0 {
			return t
		}
		for x, is := range claims {
			t.claims[x] = api.Stand{Is: is, Round: round}
		}
		for i, is := range rules {
			t.rules[i] = api.Stand{Is: is, Round: round}
		}
	}
}

// is returns what a claim is; it is denied if its thing does not occur.
func (t *court) is(x api.Claim) int {
	if s, occurs := t.claims[x]; occurs {
		return s.Is
	}
	return api.Denied
}

// ruling returns what all claims and rules are.
func (t *court) ruling() api.Ruling {
	v := api.Ruling{Things: sorted(occurs(t.code)), Rules: t.rules}
	for _, thing := range v.Things {
		v.Yes = append(v.Yes, t.claims[api.Claim{Thing: thing}])
		v.No = append(v.No, t.claims[api.Claim{Thing: thing, Not: true}])
	}
	return v
}

// Judge returns what all claims and rules are.
func Judge(c api.Code, day, known int) (api.Ruling, api.Errno) {
	if e := checkDays(c, day, known); e != api.OK {
		return api.Ruling{}, e
	}
	return judged(c, day, known).ruling(), api.OK
}

// CheckRuling returns OK if claims and rules are as a ruling says.
func CheckRuling(c api.Code, day, known int, v api.Ruling) api.Errno {
	r, e := Judge(c, day, known)
	if e != api.OK {
		return e
	}
	if !slices.Equal(v.Things, r.Things) || !slices.Equal(v.Yes, r.Yes) || !slices.Equal(v.No, r.No) || !slices.Equal(v.Rules, r.Rules) {
		return api.ErrProof
	}
	return api.OK
}

// Is returns what a claim is.
func Is(c api.Code, day, known int, x api.Claim) (api.Stand, api.Errno) {
	if e := checkClaim(c, x, day, known); e != api.OK {
		return api.Stand{}, e
	}
	return judged(c, day, known).claims[x], api.OK
}
