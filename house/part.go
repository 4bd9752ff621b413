package house

import (
	"potence/api"
	"potence/right"
)

// part is something that stands in an act, and in its line behind the first word.
type part interface {
	isRight() bool  // whether it is what it may be
	clear()         // leaves nothing in its place
	print() string  // as it stands in the line
	read(r *reader) // takes it from a line
}

// number is where a number stands, and what it may be.
type number struct {
	at          *int
	least, most int
}

// isRight says whether a number is what it may be.
func (n number) isRight() bool { return isFrom(n.least, *n.at, n.most) }

// clear leaves 0 in its place.
func (n number) clear() { *n.at = 0 }

// claim is where a claim stands.
type claim struct{ at *api.Claim }

// isRight says whether the thing of a claim is a name, which is for the language of rights to say.
func (c claim) isRight() bool {
	return right.Check(api.Code{Facts: []api.Fact{{Claim: *c.at}}}) == api.OK
}

// clear leaves no claim in its place.
func (c claim) clear() { *c.at = api.Claim{} }

// span returns the ends of a span of numbers from 0 on.
func span(at *api.Span, most int) []part {
	return []part{number{&at.Lo, 0, at.Hi}, number{&at.Hi, 0, most}}
}

// bounds are the last hole and the last day of which deeds can tell.
type bounds struct{ hole, day int }

// widest returns the bounds for acts, which have no dovecote.
func widest() bounds { return bounds{hole: api.MaxColumns*api.MaxTiers - 1, day: api.MaxDay} }

// boundsOf returns the bounds for the deeds of a dovecote that has no errors.
func boundsOf(c api.Cote) bounds { return bounds{hole: c.House.Columns*c.House.Rings - 1, day: c.Last} }

// deedParts returns the parts of a deed by its kind, but for this and Known, as they stand in its line.
func deedParts(d *api.Deed, b bounds) []part {
	l := []part{number{&d.ID, 1, api.MaxDeed}}
	switch d.Kind {
	case api.DePeep:
		l = append(l, number{&d.Hole, 0, b.hole}, number{&d.Peep.Day, 0, b.day})
		for i := range d.Peep.Numbers {
			l = append(l, span(&d.Peep.Numbers[i], api.MaxYoung)...)
		}
	case api.DeTake:
		l = append(l, number{&d.Hole, 0, b.hole}, number{&d.Day, 0, b.day})
	case api.DeSeen:
		l = append(l, number{&d.Seen.Day, 0, b.day}, number{&d.Seen.Hole, 0, b.hole})
		for i := range d.Seen.Rings {
			l = append(l, number{&d.Seen.Rings[i], 0, api.MaxColour})
		}
	case api.DeFact:
		l = append(l, claim{&d.Claim})
		l = append(l, span(&d.Days, api.MaxDay)...)
	case api.DeBack:
		l = append(l, number{&d.Ref, 1, api.MaxDeed})
	}
	return l
}

// actParts returns the parts of an act by its kind, but for this, as they stand in its line.
func actParts(a *api.Act) []part {
	b := widest()
	known, day := number{&a.Known, 0, api.MaxDay}, number{&a.A, 0, api.MaxDay}
	switch a.Kind {
	case api.AcDay:
		return []part{day}
	case api.AcDeed:
		return deedParts(&a.Deed, b)
	case api.AcRound:
		return []part{day, known}
	case api.AcNest:
		return []part{number{&a.A, 0, b.hole}, number{&a.B, api.NsEggs, api.NsOld}, number{&a.C, 0, api.MaxDay}, known}
	case api.AcClash:
		return []part{number{&a.A, 0, b.hole}, known}
	case api.AcBirds:
		return []part{known}
	case api.AcRight:
		return []part{claim{&a.Claim}, day, known}
	case api.AcTaking, api.AcDue:
		return []part{number{&a.A, 0, api.MaxFlock}, number{&a.B, 0, api.MaxDay}, known}
	}
	return nil
}

// cleared says whether parts are what they may be, and, if so, leaves nothing in their places.
func cleared(l []part) bool {
	for _, p := range l {
		if !p.isRight() {
			return false
		}
		p.clear()
	}
	return true
}

// isDeed says whether a deed is formed, in a dovecote that has no errors: without its parts nothing may be left of it, neither a look nor anything else.
func isDeed(c api.Cote, d api.Deed) bool {
	l := append(deedParts(&d, boundsOf(c)), number{&d.Kind, api.DePeep, api.DeBack}, number{&d.Known, 0, api.MaxDay})
	if !cleared(l) {
		return false
	}
	return d == api.Deed{}
}

// isAct says whether an act is formed: without its parts nothing may be left of it.
func isAct(a api.Act) bool {
	l := append(actParts(&a), number{&a.Kind, api.AcDay, api.AcDue})
	if a.Kind == api.AcDeed {
		l = append(l, number{&a.Deed.Kind, api.DePeep, api.DeBack})
	}
	if !cleared(l) {
		return false
	}
	return a == api.Act{}
}

// isQuestion says whether an act is a question, formed or not.
func isQuestion(a api.Act) bool { return isFrom(api.AcRound, a.Kind, api.AcDue) }
