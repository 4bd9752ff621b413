package right

import (
	"strconv"
	"strings"

	"potence/api"
)

// claimText returns the text of a claim.
func claimText(x api.Claim) string {
	if x.Not {
		return "not " + x.Thing
	}
	return x.Thing
}

// claimsText returns the text of claims with the word that stands ahead of them, and nothing if there are none.
func claimsText(ahead string, l []api.Claim) string {
	if len(l) == 0 {
		return ""
	}
	var texts []string
	for _, x := range l {
		texts = append(texts, claimText(x))
	}
	return ahead + strings.Join(texts, ", ")
}

// daysText returns the text of a span of days.
func daysText(s api.Span) string {
	return " days " + strconv.Itoa(s.Lo) + " to " + strconv.Itoa(s.Hi)
}

// factText returns the text of a fact.
func factText(f api.Fact) string {
	return "fact " + claimText(f.Claim) + daysText(f.Days) + " known " + strconv.Itoa(f.Known) + ";\n"
}

// ruleText returns the text of a rule.
func ruleText(r api.Rule) string {
	text := "rule " + r.Name + " says " + claimText(r.Says) + claimsText(" if ", r.If) + claimsText(" unless ", r.Unless)
	text += " rank " + strconv.Itoa(r.Rank) + daysText(r.Days)
	for _, g := range r.Gifts {
		text += " gives " + g.Who + " " + strconv.Itoa(g.Birds)
	}
	return text + ";\n"
}

// Print returns the source of a code.
func Print(c api.Code) (string, api.Errno) {
	if e := Check(c); e != api.OK {
		return "", e
	}
	text := ""
	for _, f := range c.Facts {
		text += factText(f)
	}
	for _, r := range c.Rules {
		text += ruleText(r)
	}
	return text, api.OK
}
