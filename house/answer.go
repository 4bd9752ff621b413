package house

import (
	"cmp"

	"potence/api"
	"potence/nest"
	"potence/right"
	"potence/rings"
	"potence/round"
	"potence/share"
)

// question is a formed question that is asked of a dovecote with deeds.
type question struct {
	api.Act
	cote  api.Cote
	deeds []api.Deed
}

// Answer returns the reply to a question.
func Answer(c api.Cote, l []api.Deed, q api.Act) api.Told {
	if !isQuestion(q) || !isAct(q) {
		return api.Told{Err: api.ErrForm}
	}
	return question{q, c, l}.reply()
}

// reply returns the reply to a question. Whatever is asked, what is known is told first: that returns the error of CheckDeeds ahead of all others.
func (q question) reply() api.Told {
	replies := map[int]func() (api.Told, api.Errno){
		api.AcRound:  q.round,
		api.AcNest:   q.nest,
		api.AcClash:  q.clash,
		api.AcBirds:  q.birds,
		api.AcRight:  q.right,
		api.AcTaking: q.taking,
		api.AcDue:    q.due,
	}
	t, e := checked(replies[q.Kind]())
	t.Err = e
	return t
}

// holes returns the holes that are to be reached.
func (q question) holes() ([]int, api.Errno) { return Holes(q.cote, q.deeds, q.A, q.Known) }

// nestOf returns what is known of the hole that is asked for.
func (q question) nestOf() (api.Nest, api.Errno) { return NestOf(q.cote, q.deeds, q.A, q.Known) }

// roll returns the birds that were seen.
func (q question) roll() (api.Roll, api.Errno) { return RollOf(q.cote, q.deeds, q.Known) }

// loft returns what can be taken.
func (q question) loft() (api.Loft, api.Errno) { return LoftOf(q.cote, q.deeds, q.B, q.Known) }

// code returns the rights.
func (q question) code() (api.Code, api.Errno) { return CodeOf(q.cote, q.deeds, q.Known) }

// round tells the fewest stands from which the holes of a day are reached.
func (q question) round() (api.Told, api.Errno) {
	holes, e := q.holes()
	if e != api.OK {
		return api.Told{}, e
	}
	r, e := round.Fewest(q.cote.House, holes)
	return api.Told{Round: r}, e
}

// nest tells how many there were of something in a hole.
func (q question) nest() (api.Told, api.Errno) {
	n, e := q.nestOf()
	if e != api.OK {
		return api.Told{}, e
	}
	x, e := nest.Ends(n, q.B, q.C)
	return api.Told{Number: x}, e
}

// clash tells whether what is known of a hole contradicts itself.
func (q question) clash() (api.Told, api.Errno) {
	n, e := q.nestOf()
	if e != api.OK {
		return api.Told{}, e
	}
	stays, is, e := nest.Contradiction(n)
	return api.Told{Stays: stays, Is: is}, e
}

// birds tells how few birds were seen.
func (q question) birds() (api.Told, api.Errno) {
	r, e := q.roll()
	if e != api.OK {
		return api.Told{}, e
	}
	b, e := rings.Fewest(r)
	return api.Told{Birds: b}, e
}

// right tells what a claim is.
func (q question) right() (api.Told, api.Errno) {
	c, e := q.code()
	if e != api.OK {
		return api.Told{}, e
	}
	v, e := right.Judge(c, q.A, q.Known)
	s, also := right.Is(c, q.A, q.Known, q.Claim)
	return api.Told{Ruling: v, Stand: s}, cmp.Or(e, also)
}

// taking tells how squabs are worth most that surely are there.
func (q question) taking() (api.Told, api.Errno) {
	l, e := q.loft()
	if e != api.OK {
		return api.Told{}, e
	}
	x, e := share.Best(l, q.A)
	return api.Told{Taken: x}, e
}

// due tells who gets what.
func (q question) due() (api.Told, api.Errno) {
	c, e := q.code()
	if e != api.OK {
		return api.Told{}, e
	}
	gifts, _, e := right.Gifts(c, q.B, q.Known)
	if e != api.OK {
		return api.Told{}, e
	}
	var owed []api.Owed
	for _, g := range gifts {
		owed = append(owed, api.Owed{Who: g.Who, Birds: min(g.Birds, api.MaxFlock)})
	}
	paid, left, e := share.Pay(q.A, owed) // ErrLimit if there are too many of them
	if e != api.OK {
		return api.Told{}, e
	}
	for i, birds := range paid {
		owed[i].Birds = birds
	}
	return api.Told{Owed: owed, Left: left}, api.OK
}
