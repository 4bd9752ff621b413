package right

import (
	"strconv"

	"potence/api"
)

// maxNumber is the greatest number of a source.
const maxNumber = 9999

// misread is with what a reader panics: the index of the byte at which a source is wrong.
type misread int

// token is a word, a number, a comma or a semicolon of a source, and the index of its first byte.
type token struct {
	text string
	at   int
}

// isDigit says whether a byte is a digit.
func isDigit(c byte) bool { return '0' <= c && c <= '9' }

// isBlank says whether a byte separates tokens.
func isBlank(c byte) bool { return c == ' ' || c == '\t' || c == '\n' }

// isMark says whether a byte is a token.
func isMark(c byte) bool { return c == ',' || c == ';' }

// run returns the index of the first byte, from one on, that is not of a kind.
func run(source string, from int, is func(c byte) bool) int {
	for from < len(source) && is(source[from]) {
		from++
	}
	return from
}

// refuse panics if the byte at an index, if there is one, is of a kind.
func refuse(source string, at int, is func(c byte) bool) {
	if at < len(source) && is(source[at]) {
		panic(misread(at))
	}
}

// wordEnd returns the index behind the word that begins at an index.
func wordEnd(source string, at int) int {
	end := run(source, at, isLetter)
	if end-at > api.MaxName {
		panic(misread(at))
	}
	refuse(source, end, isDigit)
	return end
}

// numberEnd returns the index behind the number that begins at an index.
func numberEnd(source string, at int) int {
	end := at + 1
	if source[at] != '0' {
		end = run(source, at, isDigit)
	}
	if n, err := strconv.Atoi(source[at:end]); err != nil || n > maxNumber {
		panic(misread(at))
	}
	refuse(source, end, isDigit)
	refuse(source, end, isLetter)
	return end
}

// tokenEnd returns the index behind the token that begins at an index.
func tokenEnd(source string, at int) int {
	switch c := source[at]; {
	case isMark(c):
		return at + 1
	case isLetter(c):
		return wordEnd(source, at)
	case isDigit(c):
		return numberEnd(source, at)
	}
	panic(misread(at))
}

// tokensOf returns the tokens of a source; it panics at what is none.
func tokensOf(source string) []token {
	var l []token
	for at := run(source, 0, isBlank); at < len(source); {
		end := tokenEnd(source, at)
		l = append(l, token{text: source[at:end], at: at})
		at = run(source, end, isBlank)
	}
	return l
}

// reader takes one token after another from a source that is so long; it panics at one that cannot stand where it does.
type reader struct {
	tokens []token
	length int
}

// next returns the text of the next token, which is empty behind the last one.
func (r *reader) next() string {
	if len(r.tokens) == 0 {
		return ""
	}
	return r.tokens[0].text
}

// giveUp panics at the next token.
func (r *reader) giveUp() {
	if len(r.tokens) == 0 {
		panic(misread(r.length))
	}
	panic(misread(r.tokens[0].at))
}

// takes takes the next token if it is a certain one, and says whether it is.
func (r *reader) takes(text string) bool {
	is := r.next() == text
	if is {
		r.tokens = r.tokens[1:]
	}
	return is
}

// must takes the next token, which has to be a certain one.
func (r *reader) must(text string) {
	if !r.takes(text) {
		r.giveUp()
	}
}

// name takes the next token, which has to be a name.
func (r *reader) name() string {
	text := r.next()
	if !isName(text) {
		r.giveUp()
	}
	r.must(text)
	return text
}

// number takes the next token, which has to be a number.
func (r *reader) number() int {
	text := r.next()
	n, err := strconv.Atoi(text)
	if err != nil {
		r.giveUp()
	}
	r.must(text)
	return n
}

// claim takes a claim.
func (r *reader) claim() api.Claim {
	not := r.takes("not")
	return api.Claim{Thing: r.name(), Not: not}
}

// claims takes claims, if a word stands ahead of them.
func (r *reader) claims(ahead string) []api.Claim {
	if !r.takes(ahead) {
		return nil
	}
	l := []api.Claim{r.claim()}
	for r.takes(",") {
		l = append(l, r.claim())
	}
	return l
}

// days takes a span of days.
func (r *reader) days() api.Span {
	r.must("days")
	from := r.number()
	r.must("to")
	return api.Span{Lo: from, Hi: r.number()}
}

// fact takes a fact from behind its first word.
func (r *reader) fact() api.Fact {
	var f api.Fact
	f.Claim = r.claim()
	f.Days = r.days()
	r.must("known")
	f.Known = r.number()
	r.must(";")
	return f
}

// rule takes a rule from behind its first word.
func (r *reader) rule() api.Rule {
	var u api.Rule
	u.Name = r.name()
	r.must("says")
	u.Says = r.claim()
	u.If = r.claims("if")
	u.Unless = r.claims("unless")
	r.must("rank")
	u.Rank = r.number()
	u.Days = r.days()
	for r.takes("gives") {
		who := r.name()
		u.Gifts = append(u.Gifts, api.Gift{Who: who, Birds: r.number()})
	}
	r.must(";")
	return u
}

// code takes all facts and rules.
func (r *reader) code() api.Code {
	var c api.Code
	for len(r.tokens) > 0 {
		if r.takes("fact") {
			c.Facts = append(c.Facts, r.fact())
			continue
		}
		r.must("rule")
		c.Rules = append(c.Rules, r.rule())
	}
	return c
}

// read returns the code that a source says, whether it is formed or not; ErrForm, and where, if it says none.
func read(source string) (c api.Code, e api.Errno, at int) {
	defer func() {
		if wrong, is := recover().(misread); is {
			c, e, at = api.Code{}, api.ErrForm, int(wrong)
		}
	}()
	// An error of a token goes ahead of one of the grammar, wherever they are: so all tokens are found first.
	r := reader{tokens: tokensOf(source), length: len(source)}
	return r.code(), api.OK, 0
}

// Parse returns the code of a source.
func Parse(source string) (api.Code, api.Errno, int) {
	if len(source) > api.MaxRightIn {
		return api.Code{}, api.ErrLimit, 0
	}
	c, e, at := read(source)
	if e == api.OK {
		e = Check(c)
	}
	if e != api.OK {
		return api.Code{}, e, at
	}
	return c, api.OK, 0
}
