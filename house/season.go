package house

import (
	"slices"
	"strconv"
	"strings"

	"potence/api"
)

// checkActs returns the first error of acts, and where it lies.
func checkActs(l []api.Act) (api.Errno, int) {
	if len(l) > api.MaxActs {
		return api.ErrLimit, -1
	}
	at := slices.IndexFunc(l, func(a api.Act) bool { return !isAct(a) })
	if at >= 0 {
		return api.ErrForm, at
	}
	return api.OK, -1
}

// Check returns the first error of a season, and where it lies.
func Check(s api.Season) (api.Errno, int) {
	if e := CheckCote(s.Cote); e != api.OK {
		return e, -1
	}
	return checkActs(s.Acts)
}

// Run returns what all acts of a season tell.
func Run(s api.Season) ([]api.Told, api.Errno) {
	if e, _ := Check(s); e != api.OK {
		return nil, e
	}
	k, _ := New(s.Cote)
	var l []api.Told
	for _, a := range s.Acts {
		l = append(l, k.Do(a))
	}
	return l, api.OK
}

// numbersLine returns a line of a word, and numbers behind it.
func numbersLine(word string, numbers ...int) string {
	words := []string{word}
	for _, n := range numbers {
		words = append(words, strconv.Itoa(n))
	}
	return strings.Join(words, " ")
}

// standWord returns the word for what a claim is.
func standWord(is int) string {
	switch is {
	case api.Open:
		return "open"
	case api.Granted:
		return "granted"
	}
	return "denied"
}

// replyLine returns the line of the reply to an act of a kind.
func replyLine(kind int, t api.Told) string {
	if t.Err != api.OK {
		return numbersLine("error", int(t.Err))
	}
	switch kind {
	case api.AcRound:
		return numbersLine("stands", t.Round.Stands...)
	case api.AcNest:
		return numbersLine("from", t.Number.Span.Lo) + " " + numbersLine("to", t.Number.Span.Hi)
	case api.AcClash:
		if t.Is {
			return "contradiction"
		}
		return "none"
	case api.AcBirds:
		return numbersLine("birds", len(t.Birds.Chains))
	case api.AcRight:
		return standWord(t.Stand.Is)
	case api.AcTaking:
		return numbersLine("worth", t.Taken.Worth)
	case api.AcDue:
		line := numbersLine("left", t.Left)
		for _, o := range t.Owed {
			line += " " + numbersLine(o.Who, o.Birds)
		}
		return line
	}
	return "ok"
}

// Transcript returns a line for each reply.
func Transcript(s api.Season, l []api.Told) ([]string, api.Errno) {
	if e, _ := Check(s); e != api.OK {
		return nil, e
	}
	if len(l) != len(s.Acts) {
		return nil, api.ErrArg
	}
	var lines []string
	for i, t := range l {
		lines = append(lines, replyLine(s.Acts[i].Kind, t))
	}
	return lines, api.OK
}
