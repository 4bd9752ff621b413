package house

import (
	"strconv"
	"strings"

	"potence/api"
)

// kinds returns, by the words with which lines begin, acts of all kinds without any parts.
func kinds() map[string]api.Act {
	return map[string]api.Act{
		"day":    {Kind: api.AcDay},
		"peep":   {Kind: api.AcDeed, Deed: api.Deed{Kind: api.DePeep}},
		"take":   {Kind: api.AcDeed, Deed: api.Deed{Kind: api.DeTake}},
		"seen":   {Kind: api.AcDeed, Deed: api.Deed{Kind: api.DeSeen}},
		"fact":   {Kind: api.AcDeed, Deed: api.Deed{Kind: api.DeFact}},
		"back":   {Kind: api.AcDeed, Deed: api.Deed{Kind: api.DeBack}},
		"round":  {Kind: api.AcRound},
		"nest":   {Kind: api.AcNest},
		"clash":  {Kind: api.AcClash},
		"birds":  {Kind: api.AcBirds},
		"right":  {Kind: api.AcRight},
		"taking": {Kind: api.AcTaking},
		"due":    {Kind: api.AcDue},
	}
}

// wordOf returns the word with which the line of a formed act begins.
func wordOf(a api.Act) string {
	for word, b := range kinds() {
		if a.Kind == b.Kind && a.Deed.Kind == b.Deed.Kind {
			return word
		}
	}
	return ""
}

// print returns a number in digits.
func (n number) print() string { return strconv.Itoa(*n.at) }

// print returns the words of a claim.
func (c claim) print() string {
	if c.at.Not {
		return "not " + c.at.Thing
	}
	return c.at.Thing
}

// lineOf returns the line of a formed act.
func lineOf(a api.Act) string {
	words := []string{wordOf(a)}
	for _, p := range actParts(&a) {
		words = append(words, p.print())
	}
	return strings.Join(words, " ")
}

// Print returns the text of acts.
func Print(l []api.Act) (string, api.Errno) {
	if e, _ := checkActs(l); e != api.OK {
		return "", e
	}
	var text strings.Builder
	for _, a := range l {
		text.WriteString(lineOf(a) + "\n")
	}
	return text.String(), api.OK
}

// misread is with what a reader panics.
type misread struct{}

// reader takes one word after another from a line; it panics at one that cannot stand where it does.
type reader struct{ words []string }

// next takes the next word.
func (r *reader) next() string {
	if len(r.words) == 0 {
		panic(misread{})
	}
	word := r.words[0]
	r.words = r.words[1:]
	return word
}

// read takes a number; there is just one way to write it.
func (n number) read(r *reader) {
	word := r.next()
	x, err := strconv.Atoi(word)
	if err != nil || strconv.Itoa(x) != word {
		panic(misread{})
	}
	*n.at = x
}

// read takes a claim; what is no name is found by isRight.
func (c claim) read(r *reader) {
	word := r.next()
	if word == "not" {
		c.at.Not = true
		word = r.next()
	}
	c.at.Thing = word
}

// act takes an act, formed or not.
func (r *reader) act() api.Act {
	a, is := kinds()[r.next()]
	if !is {
		panic(misread{})
	}
	for _, p := range actParts(&a) {
		p.read(r)
	}
	if len(r.words) > 0 {
		panic(misread{})
	}
	return a
}

// read returns the act that a line says, formed or not, and whether it says one.
func read(line string) (a api.Act, is bool) {
	defer func() {
		if _, wrong := recover().(misread); wrong {
			a, is = api.Act{}, false
		}
	}()
	r := reader{strings.Split(line, " ")}
	return r.act(), true
}

// Parse returns the acts of a text, or an error and the line in which it lies.
func Parse(text string) ([]api.Act, api.Errno, int) {
	if strings.Count(text, "\n") > api.MaxActs {
		return nil, api.ErrLimit, -1
	}
	var l []api.Act
	for line := range strings.Lines(text) {
		line, ended := strings.CutSuffix(line, "\n")
		a, is := read(line)
		if !ended || !is || !isAct(a) {
			return nil, api.ErrForm, len(l)
		}
		l = append(l, a)
	}
	return l, api.OK, -1
}
