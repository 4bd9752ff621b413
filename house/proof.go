package house

import (
	"slices"

	"potence/api"
	"potence/nest"
	"potence/rings"
	"potence/round"
	"potence/share"
)

// provesRound says whether a round is as good as another one, and proves it.
func (q question) provesRound(r, other api.Round) bool {
	holes, _ := q.holes()
	return len(r.Stands) == len(other.Stands) && round.CheckFewest(q.cote.House, holes, r) == api.OK
}

// provesNumber says whether a number is as another one, and proves it.
func (q question) provesNumber(x, other api.Number) bool {
	n, _ := q.nestOf()
	return x.Span == other.Span && nest.CheckEnds(n, q.B, q.C, x) == api.OK
}

// provesClash says whether stays prove that what is known of a hole contradicts itself.
func (q question) provesClash(l [][]api.Stay) bool {
	n, _ := q.nestOf()
	return nest.CheckContradiction(n, l) == api.OK
}

// provesBirds says whether birds are as many as others, and prove it.
func (q question) provesBirds(b, other api.Birds) bool {
	r, _ := q.roll()
	return len(b.Chains) == len(other.Chains) && rings.CheckFewest(r, b) == api.OK
}

// provesTaking says whether a taking has as many birds as are asked for, and proves that it is a best one.
func (q question) provesTaking(x api.Taken) bool {
	l, _ := q.loft()
	return share.CheckBest(l, x) == api.OK && x.Given[0] == q.A
}

// settled returns a reply in which what may be something else is as in the right one, if it is as good.
func (q question) settled(t, right api.Told) api.Told {
	switch {
	case t.Err != api.OK:
		return t
	case q.Kind == api.AcRound && q.provesRound(t.Round, right.Round):
		t.Round = right.Round
	case q.Kind == api.AcNest && q.provesNumber(t.Number, right.Number):
		t.Number = right.Number
	case q.Kind == api.AcClash && t.Is && q.provesClash(t.Stays):
		t.Stays = right.Stays
	case q.Kind == api.AcBirds && q.provesBirds(t.Birds, right.Birds):
		t.Birds = right.Birds
	case q.Kind == api.AcTaking && q.provesTaking(t.Taken):
		t.Taken = right.Taken
	}
	return t
}

// isRight says whether a reply to a question is right. What is the same is not proved again.
func (q question) isRight(t api.Told) bool {
	right := q.reply()
	return isSame(t, right) || isSame(q.settled(t, right), right)
}

// CheckReply returns OK if a reply to a question is right.
func CheckReply(c api.Cote, l []api.Deed, q api.Act, t api.Told) api.Errno {
	if e := CheckDeeds(c, l); e != api.OK {
		return e
	}
	if !isQuestion(q) || !isAct(q) {
		return api.ErrForm
	}
	if !(question{q, c, l}).isRight(t) {
		return api.ErrProof
	}
	return api.OK
}

// accepts does an act, and says whether a reply to it is right.
func (k *Keeper) accepts(a api.Act, t api.Told) bool {
	if isQuestion(a) {
		return CheckReply(k.cote, k.deeds, a, t) == api.OK
	}
	return isSame(t, k.Do(a))
}

// Accept returns OK if all replies of a season are right.
func Accept(s api.Season, l []api.Told) (api.Errno, int) {
	if e, at := Check(s); e != api.OK {
		return e, at
	}
	if len(l) != len(s.Acts) {
		return api.ErrArg, -1
	}
	k, _ := New(s.Cote)
	for i, a := range s.Acts {
		if !k.accepts(a, l[i]) {
			return api.ErrProof, i
		}
	}
	return api.OK, -1
}

// sameLists says whether lists of lists are the same.
func sameLists(a, b [][]int) bool { return slices.EqualFunc(a, b, slices.Equal[[]int]) }

// sameStays says whether stays of days are the same.
func sameStays(a, b [][]api.Stay) bool {
	return slices.EqualFunc(a, b, func(x, y []api.Stay) bool {
		return slices.EqualFunc(x, y, func(s, t api.Stay) bool { return s.Phase == t.Phase && slices.Equal(s.Ages, t.Ages) })
	})
}

// sameRound says whether two rounds are the same.
func sameRound(a, b api.Round) bool {
	return slices.Equal(a.Stands, b.Stands) && slices.EqualFunc(a.Cuts, b.Cuts, func(x, y api.Cut) bool {
		return x.Stand == y.Stand && slices.Equal(x.Columns, y.Columns)
	})
}

// sameNumber says whether two numbers, and what shows them, are the same.
func sameNumber(a, b api.Number) bool {
	return a.Span == b.Span && slices.Equal(a.Low, b.Low) && slices.Equal(a.High, b.High) && sameStays(a.Below, b.Below) && sameStays(a.Above, b.Above)
}

// sameRuling says whether two rulings are the same.
func sameRuling(a, b api.Ruling) bool {
	return slices.Equal(a.Things, b.Things) && slices.Equal(a.Yes, b.Yes) && slices.Equal(a.No, b.No) && slices.Equal(a.Rules, b.Rules)
}

// sameTaken says whether two takings, and what proves them, are the same.
func sameTaken(a, b api.Taken) bool {
	return slices.Equal(a.Given, b.Given) && a.Worth == b.Worth && slices.Equal(a.Prices, b.Prices)
}

// isSame says whether two replies are the same, be their empty lists nil or not.
func isSame(a, b api.Told) bool {
	return a.Err == b.Err && sameRound(a.Round, b.Round) && sameNumber(a.Number, b.Number) &&
		a.Is == b.Is && sameStays(a.Stays, b.Stays) &&
		sameLists(a.Birds.Chains, b.Birds.Chains) && slices.Equal(a.Birds.Apart, b.Birds.Apart) &&
		a.Stand == b.Stand && sameRuling(a.Ruling, b.Ruling) && sameTaken(a.Taken, b.Taken) &&
		slices.Equal(a.Owed, b.Owed) && a.Left == b.Left
}
