package about

import (
	"cmp"
	"errors"
	"maps"
	"slices"

	"potence/api"
)

// isName says whether a text is a name.
func isName(text string) bool {
	if len(text) < 1 || len(text) > api.MaxName {
		return false
	}
	for i := range len(text) {
		if text[i] < 'a' || text[i] > 'z' {
			return false
		}
	}
	return true
}

// isDay says whether a number is a day.
func isDay(n int) bool { return 0 <= n && n <= api.MaxDay }

// formed says whether a definition is formed.
func formed(d api.Define) bool {
	if !isName(d.Name) || !isDay(d.Known) {
		return false
	}
	switch d.Kind {
	case api.DfIs:
		return d.Of == "" && d.With == "" && Check(d.Days) == api.OK
	case api.DfAfter:
		return isName(d.Of) && d.With == "" && Check(d.Days) == api.OK
	case api.DfBoth, api.DfOne:
		return isName(d.Of) && isName(d.With) && d.Days == api.Vague{}
	}
	return false
}

// Calendar returns the first error of definitions.
func Calendar(l []api.Define) api.Errno {
	if len(l) > api.MaxDefines {
		return api.ErrLimit
	}
	for i, d := range l {
		if !formed(d) {
			return api.ErrForm
		}
		for _, other := range l[:i] {
			if other.Name == d.Name && other.Known == d.Known {
				return api.ErrTwice
			}
		}
	}
	return api.OK
}

// checkKnown returns the first error of definitions with a day as known.
func checkKnown(l []api.Define, known int) api.Errno {
	if e := Calendar(l); e != api.OK {
		return e
	}
	if !isDay(known) {
		return api.ErrArg
	}
	return api.OK
}

// checkName returns the first error of definitions with a day as known and a name.
func checkName(l []api.Define, name string, known int) api.Errno {
	if e := checkKnown(l, known); e != api.OK {
		return e
	}
	if !isName(name) {
		return api.ErrForm
	}
	return api.OK
}

// book has the definition of each name that is defined, as known on a day.
type book map[string]api.Define

// bookOf returns the book of definitions that have no errors.
func bookOf(l []api.Define, known int) book {
	all := map[string][]api.Define{}
	for _, d := range l {
		if d.Known <= known {
			all[d.Name] = append(all[d.Name], d)
		}
	}
	b := book{}
	for name, ds := range all {
		b[name] = slices.MaxFunc(ds, func(c, d api.Define) int { return cmp.Compare(c.Known, d.Known) })
	}
	return b
}

// parts returns the names that the definition of a name has, if there is one.
func (b book) parts(name string) []string {
	switch d := b[name]; d.Kind {
	case api.DfAfter:
		return []string{d.Of}
	case api.DfBoth, api.DfOne:
		return []string{d.Of, d.With}
	}
	return nil
}

// needs returns the names on which a name rests, in increasing order.
func (b book) needs(name string) []string {
	found := map[string]bool{}
	next := b.parts(name)
	for len(next) > 0 {
		n := next[0]
		next = next[1:]
		if !found[n] {
			found[n] = true
			next = append(next, b.parts(n)...)
		}
	}
	return slices.Sorted(maps.Keys(found))
}

// whole says whether a name and all on which it rests are defined.
func (b book) whole(name string) bool {
	for _, n := range append(b.needs(name), name) {
		if _, ok := b[n]; !ok {
			return false
		}
	}
	return true
}

// errRing is with what a walk panics that meets itself.
var errRing = errors.New("a name rests on itself")

// walk goes from a name to all on which it rests, and puts them in an order in which each comes behind its parts.
type walk struct {
	parts       func(name string) []string
	begun, done map[string]bool
	order       []string
}

// visit puts a name, and all on which it rests, in order; it panics if it meets itself.
func (w *walk) visit(name string) {
	if w.done[name] {
		return
	}
	if w.begun[name] {
		panic(errRing)
	}
	w.begun[name] = true
	for _, n := range w.parts(name) {
		w.visit(n)
	}
	w.done[name] = true
	w.order = append(w.order, name)
}

// run visits a name; it returns the error with which the walk panicked, if it did.
func (w *walk) run(name string) (err error) {
	defer func() {
		if met, ok := recover().(error); ok {
			err = met
		}
	}()
	w.visit(name)
	return nil
}

// order returns a name, and all on which it rests, each behind its parts, that of Of ahead of that of With; ErrState if one of them rests on itself.
func (b book) order(name string) ([]string, api.Errno) {
	w := walk{parts: b.parts, begun: map[string]bool{}, done: map[string]bool{}}
	if err := w.run(name); err != nil {
		return nil, api.ErrState
	}
	return w.order, api.OK
}

// meaning is what Means returns.
type meaning struct {
	days api.Vague
	e    api.Errno
}

// meaning returns what a name means. The meaning of each one on which it rests is found once only, however many ways lead to it. The first error in the order is that of the name, because parts come ahead of what has them, and Of ahead of With.
func (b book) meaning(name string) meaning {
	if !b.whole(name) {
		return meaning{e: api.ErrNone}
	}
	names, e := b.order(name)
	if e != api.OK {
		return meaning{e: e}
	}
	meanings := map[string]api.Vague{}
	for _, n := range names {
		days, e := made(b[n], meanings)
		if e != api.OK {
			return meaning{e: e}
		}
		meanings[n] = days
	}
	return meaning{days: meanings[name]}
}

// made returns what a definition makes of the meanings of its parts.
func made(d api.Define, meanings map[string]api.Vague) (api.Vague, api.Errno) {
	switch d.Kind {
	case api.DfAfter:
		return Plus(meanings[d.Of], d.Days)
	case api.DfBoth:
		both, _, e := Both(meanings[d.Of], meanings[d.With])
		return both, e
	case api.DfOne:
		return Hull(meanings[d.Of], meanings[d.With])
	}
	return d.Days, api.OK
}

// Names returns the names that mean something, as known on a day.
func Names(l []api.Define, known int) ([]string, api.Errno) {
	if e := checkKnown(l, known); e != api.OK {
		return nil, e
	}
	return slices.Sorted(maps.Keys(bookOf(l, known))), api.OK
}

// Means returns what a name means, as known on a day.
func Means(l []api.Define, name string, known int) (api.Vague, api.Errno) {
	if e := checkName(l, name, known); e != api.OK {
		return api.Vague{}, e
	}
	m := bookOf(l, known).meaning(name)
	return m.days, m.e
}

// Needs returns the names on which the meaning of a name rests.
func Needs(l []api.Define, name string, known int) ([]string, api.Errno) {
	if e := checkName(l, name, known); e != api.OK {
		return nil, e
	}
	b := bookOf(l, known)
	if _, ok := b[name]; !ok {
		return nil, api.ErrNone
	}
	return b.needs(name), api.OK
}

// Changes returns the days on which a name comes to mean something else.
func Changes(l []api.Define, name string) ([]int, api.Errno) {
	if e := checkName(l, name, 0); e != api.OK {
		return nil, e
	}
	// The book of a day is another one than that of the day before only if something came to be known on it.
	var days []int
	for _, d := range l {
		days = append(days, d.Known)
	}
	slices.Sort(days)
	var changes []int
	before := meaning{e: api.ErrNone}
	for _, day := range slices.Compact(days) {
		now := bookOf(l, day).meaning(name)
		if now != before {
			changes = append(changes, day)
		}
		before = now
	}
	return changes, api.OK
}
