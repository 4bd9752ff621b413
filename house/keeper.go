package house

import (
	"slices"

	"potence/api"
)

// book is a dovecote, the day, and the deeds that were written up to it.
type book struct {
	cote  api.Cote
	day   int
	deeds []api.Deed
}

// Day returns the day of a keeper.
func (b *book) Day() int { return b.day }

// Deeds returns the deeds of a keeper.
func (b *book) Deeds() []api.Deed { return slices.Clone(b.deeds) }

// begin begins a day.
func (b *book) begin(day int) api.Errno {
	if day < b.day {
		return api.ErrArg
	}
	b.day = day
	return api.OK
}

// write writes a deed, which comes to be known today.
func (b *book) write(d api.Deed) api.Errno {
	d.Known = b.day
	more := append(b.Deeds(), d)
	if e := CheckDeeds(b.cote, more); e != api.OK {
		return e
	}
	b.deeds = more
	return api.OK
}

// Keeper is a dovecote that is kept by acts.
type Keeper struct{ book }

// New returns a keeper of a dovecote.
func New(c api.Cote) (*Keeper, api.Errno) {
	if e := CheckCote(c); e != api.OK {
		return nil, e
	}
	return &Keeper{book{cote: copied(c)}}, api.OK
}

// Do does an act, and returns what it tells.
func (k *Keeper) Do(a api.Act) api.Told {
	if !isAct(a) {
		return api.Told{Err: api.ErrForm}
	}
	switch a.Kind {
	case api.AcDay:
		return api.Told{Err: k.begin(a.A)}
	case api.AcDeed:
		return api.Told{Err: k.write(a.Deed)}
	}
	return Answer(k.cote, k.deeds, a)
}
