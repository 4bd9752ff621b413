package right_test

import (
	"regexp"
	"slices"
	"strings"

	"potence/api"
)

// dice are numbers that are the same in each run.
type dice uint64

// roll returns a number less than n.
func (d *dice) roll(n int) int {
	*d = *d*6364136223846793005 + 1442695040888963407
	return int(uint64(*d)>>33) % n
}

// shuffle brings a list into some order.
func shuffle[T any](d *dice, l []T) {
	for i := range l {
		j := i + d.roll(len(l)-i)
		l[i], l[j] = l[j], l[i]
	}
}

// claim returns some claim about one of the first so many things.
func (d *dice) claim(things int) api.Claim {
	return api.Claim{Thing: string(rune('a' + d.roll(things))), Not: d.roll(3) == 0}
}

// claims returns some claims, all different, at most so many.
func (d *dice) claims(things, most int) []api.Claim {
	var l []api.Claim
	for range d.roll(most + 1) {
		if x := d.claim(things); !slices.Contains(l, x) {
			l = append(l, x)
		}
	}
	return l
}

// days returns some days, most of them few.
func (d *dice) days() api.Span {
	from := d.roll(5)
	if d.roll(10) == 0 {
		return api.Span{Lo: api.MaxDay - from, Hi: api.MaxDay}
	}
	return api.Span{Lo: from, Hi: from + d.roll(8)}
}

// fact returns some fact about one of the first so many things.
func (d *dice) fact(things int) api.Fact {
	return api.Fact{Claim: d.claim(things), Days: d.days(), Known: d.roll(8)}
}

// rule returns some rule about the first so many things.
func (d *dice) rule(things, number int) api.Rule {
	r := api.Rule{Name: "rule" + string(rune('a'+number)), Says: d.claim(things), Rank: d.roll(3), Days: d.days()}
	r.If, r.Unless = d.claims(things, 2), d.claims(things, d.roll(2))
	for range d.roll(3) {
		r.Gifts = append(r.Gifts, api.Gift{Who: string(rune('p' + d.roll(3))), Birds: 1 + d.roll(9)})
	}
	return r
}

// code returns some small code.
func (d *dice) code() api.Code {
	things := 1 + d.roll(6)
	var c api.Code
	for range d.roll(6) {
		c.Facts = append(c.Facts, d.fact(things))
	}
	for i := range d.roll(9) {
		c.Rules = append(c.Rules, d.rule(things, i))
	}
	return c
}

// steep returns some code in which much rests on what other rules say.
func (d *dice) steep() api.Code {
	var c api.Code
	for i := range 2 {
		c.Facts = append(c.Facts, api.Fact{Claim: yes(string(rune('a' + i))), Days: span(0, 20)})
	}
	for i := range 4 + d.roll(8) {
		r := api.Rule{Name: "rule" + string(rune('a'+i)), Days: span(0, 20), Rank: d.roll(9)}
		r.Says = yes(string(rune('c' + max(i-d.roll(3), 0))))
		for range 1 + d.roll(2) {
			if x := yes(string(rune('c' + max(i-1-d.roll(3), -2)))); !slices.Contains(r.If, x) {
				r.If = append(r.If, x)
			}
		}
		if d.roll(6) == 0 {
			r.Says.Not, r.Unless = d.roll(2) == 0, d.claims(1+i, 1)
		}
		c.Rules = append(c.Rules, r)
	}
	shuffle(d, c.Rules)
	return c
}

// thingsOf returns the things of a code, as the chapter has it.
func thingsOf(c api.Code) []string {
	var l []string
	for _, f := range c.Facts {
		l = append(l, f.Claim.Thing)
	}
	for _, r := range c.Rules {
		for _, x := range slices.Concat([]api.Claim{r.Says}, r.If, r.Unless) {
			l = append(l, x.Thing)
		}
	}
	slices.Sort(l)
	return slices.Compact(l)
}

// claimsOf returns all claims about the things of a code.
func claimsOf(c api.Code) []api.Claim {
	var l []api.Claim
	for _, thing := range thingsOf(c) {
		l = append(l, api.Claim{Thing: thing}, api.Claim{Thing: thing, Not: true})
	}
	return l
}

// other returns the opposite of a claim.
func other(x api.Claim) api.Claim { return api.Claim{Thing: x.Thing, Not: !x.Not} }

// lies says whether a day lies in a span.
func lies(day int, s api.Span) bool { return s.Lo <= day && day <= s.Hi }

// isGiven says whether a claim is given.
func isGiven(c api.Code, day, known int, x api.Claim) bool {
	return slices.ContainsFunc(c.Facts, func(f api.Fact) bool { return f.Claim == x && lies(day, f.Days) && f.Known <= known })
}

// rivalsOf returns the rivals of a rule.
func rivalsOf(c api.Code, rule, day int) []int {
	var l []int
	for i, r := range c.Rules {
		if lies(day, r.Days) && r.Says == other(c.Rules[rule].Says) && r.Rank >= c.Rules[rule].Rank {
			l = append(l, i)
		}
	}
	return l
}

// round is what all claims of a code, and its rules, are behind a round.
type round struct {
	claims map[api.Claim]api.Stand
	rules  []api.Stand
}

// has says whether some claims are something, any of them or each one.
func (b round) has(l []api.Claim, is int) bool {
	return slices.ContainsFunc(l, func(x api.Claim) bool { return b.claims[x].Is == is })
}

// hasRule says whether one of some rules is something.
func (b round) hasRule(l []int, is int) bool {
	return slices.ContainsFunc(l, func(i int) bool { return b.rules[i].Is == is })
}

// all says whether each one of some claims is something.
func (b round) all(l []api.Claim, is int) bool {
	return !slices.ContainsFunc(l, func(x api.Claim) bool { return b.claims[x].Is != is })
}

// allRules says whether each one of some rules is something.
func (b round) allRules(l []int, is int) bool {
	return !slices.ContainsFunc(l, func(i int) bool { return b.rules[i].Is != is })
}

// copied returns a round in new memory.
func (b round) copied() round {
	n := round{claims: map[api.Claim]api.Stand{}, rules: slices.Clone(b.rules)}
	for x, s := range b.claims {
		n.claims[x] = s
	}
	return n
}

// follow returns the round with a number, and whether anything became granted or denied in it.
func (b round) follow(c api.Code, day, known, number int) (round, bool) {
	n, news := b.copied(), false
	for _, x := range claimsOf(c) {
		var says []int
		for i, r := range c.Rules {
			if lies(day, r.Days) && r.Says == x {
				says = append(says, i)
			}
		}
		given := isGiven(c, day, known, x)
		switch {
		case b.claims[x].Is != api.Open:
		case given || b.hasRule(says, api.Granted):
			n.claims[x], news = api.Stand{Is: api.Granted, Round: number}, true
		case !given && b.allRules(says, api.Denied):
			n.claims[x], news = api.Stand{Is: api.Denied, Round: number}, true
		}
	}
	for i, r := range c.Rules {
		rivals, attacked := rivalsOf(c, i, day), isGiven(c, day, known, other(r.Says))
		switch {
		case b.rules[i].Is != api.Open:
		case b.has(r.If, api.Denied) || b.has(r.Unless, api.Granted) || attacked || b.hasRule(rivals, api.Granted):
			n.rules[i], news = api.Stand{Is: api.Denied, Round: number}, true
		case b.all(r.If, api.Granted) && b.all(r.Unless, api.Denied) && !attacked && b.allRules(rivals, api.Denied):
			n.rules[i], news = api.Stand{Is: api.Granted, Round: number}, true
		}
	}
	return n, news
}

// lastRound returns what is so behind the last round.
func lastRound(c api.Code, day, known int) round {
	b := round{claims: map[api.Claim]api.Stand{}}
	for _, x := range claimsOf(c) {
		b.claims[x] = api.Stand{Is: api.Open}
	}
	for _, r := range c.Rules {
		s := api.Stand{Is: api.Open}
		if !lies(day, r.Days) {
			s.Is = api.Denied
		}
		b.rules = append(b.rules, s)
	}
	for n, news := 1, true; news; n++ {
		b, news = b.follow(c, day, known, n)
	}
	return b
}

// rulingOf returns the ruling.
func rulingOf(c api.Code, day, known int) api.Ruling {
	b := lastRound(c, day, known)
	v := api.Ruling{Things: thingsOf(c), Rules: b.rules}
	for _, thing := range v.Things {
		v.Yes = append(v.Yes, b.claims[api.Claim{Thing: thing}])
		v.No = append(v.No, b.claims[api.Claim{Thing: thing, Not: true}])
	}
	return v
}

// is returns what a claim is, also one about a thing that does not occur.
func (b round) is(x api.Claim) int {
	s, occurs := b.claims[x]
	if !occurs {
		return api.Denied
	}
	return s.Is
}

// isWhy says whether rules are an explanation of a claim; b is the last round.
func isWhy(b round, c api.Code, day, known int, x api.Claim, rules []int) bool {
	for n, i := range rules {
		if b.rules[i].Is != api.Granted || slices.Contains(rules[n+1:], i) {
			return false
		}
		for _, y := range c.Rules[i].If {
			ahead := slices.ContainsFunc(rules[:n], func(j int) bool { return c.Rules[j].Says == y })
			if !isGiven(c, day, known, y) && !ahead {
				return false
			}
		}
	}
	if isGiven(c, day, known, x) {
		return true
	}
	return len(rules) > 0 && c.Rules[rules[len(rules)-1]].Says == x
}

// whyOf returns the rules that Why has to return for a claim that is granted; b is the last round.
func whyOf(b round, c api.Code, day, known int, x api.Claim) []int {
	claims, rules := []api.Claim{x}, []int(nil)
	for n := 0; n < len(claims); n++ {
		if isGiven(c, day, known, claims[n]) {
			continue
		}
		best := -1
		for i, r := range c.Rules {
			if r.Says == claims[n] && b.rules[i].Is == api.Granted && (best < 0 || b.rules[i].Round < b.rules[best].Round) {
				best = i
			}
		}
		if !slices.Contains(rules, best) {
			rules = append(rules, best)
			claims = append(claims, c.Rules[best].If...)
		}
	}
	slices.Sort(rules)
	slices.SortStableFunc(rules, func(i, j int) int { return b.rules[i].Round - b.rules[j].Round })
	return rules
}

// lessFact and lessRule return a code without a fact, or a rule.
func lessFact(c api.Code, i int) api.Code {
	return api.Code{Facts: slices.Delete(slices.Clone(c.Facts), i, i+1), Rules: c.Rules}
}

func lessRule(c api.Code, i int) api.Code {
	return api.Code{Facts: c.Facts, Rules: slices.Delete(slices.Clone(c.Rules), i, i+1)}
}

// giftsOf returns what the rules give together that are one of some stands.
func giftsOf(c api.Code, day, known int, stands ...int) []api.Gift {
	b := lastRound(c, day, known)
	var l []api.Gift
	for i, r := range c.Rules {
		if slices.Contains(stands, b.rules[i].Is) {
			l = append(l, r.Gifts...)
		}
	}
	slices.SortStableFunc(l, func(a, b api.Gift) int { return strings.Compare(a.Who, b.Who) })
	for i := len(l) - 1; i > 0; i-- {
		if l[i].Who == l[i-1].Who {
			l[i-1].Birds += l[i].Birds
			l = slices.Delete(l, i, i+1)
		}
	}
	return l
}

// The grammar as regular expressions.
const (
	form     = `fact CLAIM days NUMBER to NUMBER known NUMBER ;|rule NAME says CLAIM (if CLAIMS )?(unless CLAIMS )?rank NUMBER days NUMBER to NUMBER (gives NAME NUMBER )*;`
	claims   = `CLAIM( , CLAIM)*`
	claim    = `(not )?NAME`
	reserved = `fact|rule|says|not|if|unless|rank|days|to|known|gives`
)

// What a source, and its tokens, are. In a source one blank stands behind each token, NAME for a name, and NUMBER for a number.
var (
	source = regexp.MustCompile(`^((` + strings.ReplaceAll(strings.ReplaceAll(form, "CLAIMS", claims), "CLAIM", claim) + `) )*$`)
	own    = regexp.MustCompile(`^(` + reserved + `|,|;)$`)
	word   = regexp.MustCompile(`^[a-z]+`)
	number = regexp.MustCompile(`^(0|[1-9][0-9]*)`)
	digit  = regexp.MustCompile(`^[0-9]`)
	either = regexp.MustCompile(`^[a-z0-9]`)
)

// endings returns, for each token behind which a source can break off, tokens with which it can end.
func endings() []string {
	l := []string{""}
	for _, text := range []string{
		"NAME days NUMBER to NUMBER known NUMBER ; ",
		"NAME says NAME rank NUMBER days NUMBER to NUMBER ; ",
		"NAME NUMBER ; ",
	} {
		for text != "" {
			l = append(l, text)
			_, text, _ = strings.Cut(text, " ")
		}
	}
	return l
}

// isBeginning says whether tokens, by their kinds, are the beginning of a source.
func isBeginning(kinds string) bool {
	return slices.ContainsFunc(endings(), func(end string) bool { return source.MatchString(kinds + end) })
}

// firstOf returns the token with which a text goes on from a byte that is no blank, or where it has its first error.
func firstOf(text string, at int) (string, int) {
	rest := text[at:]
	if strings.ContainsAny(rest[:1], ",;") {
		return rest[:1], -1
	}
	if w := word.FindString(rest); w != "" {
		switch {
		case len(w) > 24:
			return "", at
		case digit.MatchString(rest[len(w):]):
			return "", at + len(w)
		}
		return w, -1
	}
	digits := number.FindString(rest)
	switch {
	case digits == "" || len(digits) > 4:
		return "", at
	case either.MatchString(rest[len(digits):]):
		return "", at + len(digits)
	}
	return digits, -1
}

// wrongAt returns the index of the first error of a text, or -1 if it is a source by the grammar.
func wrongAt(text string) int {
	var tokens []string
	var starts []int
	for at := 0; at < len(text); {
		if strings.ContainsAny(text[at:at+1], " \t\n") {
			at++
			continue
		}
		token, wrong := firstOf(text, at)
		if wrong >= 0 {
			return wrong
		}
		tokens, starts = append(tokens, token), append(starts, at)
		at += len(token)
	}
	return wrongToken(tokens, append(starts, len(text)))
}

// wrongToken returns where the first token begins that is wrong, or where the text ends, if one is missing; -1 if none is.
func wrongToken(tokens []string, starts []int) int {
	kinds := ""
	for i, token := range tokens {
		switch {
		case own.MatchString(token):
			kinds += token + " "
		case token[0] <= '9':
			kinds += "NUMBER "
		default:
			kinds += "NAME "
		}
		if !isBeginning(kinds) {
			return starts[i]
		}
	}
	if !source.MatchString(kinds) {
		return starts[len(tokens)]
	}
	return -1
}
