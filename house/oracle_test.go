package house_test

import (
	"reflect"
	"regexp"
	"slices"

	"potence/api"
	"potence/nest"
	"potence/right"
	"potence/rings"
	"potence/round"
	"potence/share"
)

// dice are numbers that are the same in each run.
type dice uint64

// roll returns a number less than n.
func (d *dice) roll(n int) int {
	*d = *d*6364136223846793005 + 1442695040888963407
	return int(uint64(*d)>>33) % n
}

// one returns one of some things.
func one[T any](d *dice, l ...T) T { return l[d.roll(len(l))] }

// shuffled returns a list in some order.
func shuffled[T any](d *dice, l []T) []T {
	l = slices.Clone(l)
	for i := range l {
		j := i + d.roll(len(l)-i)
		l[i], l[j] = l[j], l[i]
	}
	return l
}

// span returns some span within 0 to a greatest number.
func (d *dice) span(most int) api.Span {
	lo := d.roll(most + 1)
	return api.Span{Lo: lo, Hi: lo + d.roll(most-lo+1)}
}

// claim returns some claim about one of four things.
func (d *dice) claim() api.Claim {
	return api.Claim{Thing: one(d, "fast", "take", "alms", "toll"), Not: d.roll(4) == 0}
}

// code returns some small code.
func (d *dice) code() api.Code {
	var c api.Code
	for range d.roll(3) {
		c.Facts = append(c.Facts, api.Fact{Claim: d.claim(), Days: d.span(15), Known: d.roll(12)})
	}
	for i := range d.roll(6) {
		r := api.Rule{Name: string(rune('a' + i)), Says: d.claim(), Rank: d.roll(3), Days: api.Span{Lo: d.roll(3), Hi: 3 + d.roll(20)}}
		if d.roll(2) == 0 {
			r.If = append(r.If, d.claim())
		}
		if d.roll(3) == 0 {
			r.Unless = append(r.Unless, d.claim())
		}
		for range d.roll(3) {
			r.Gifts = append(r.Gifts, api.Gift{Who: one(d, "lord", "poor", "widow"), Birds: one(d, 1, 2, 5, 500, 501, 9999)})
		}
		c.Rules = append(c.Rules, r)
	}
	return c
}

// breed returns the breed of the examples, or some other one that can live for any number of days.
func (d *dice) breed() api.Breed {
	b := example().Breed
	switch d.roll(3) {
	case 0:
		b.Phases[1].Most, b.Phases[3].Squabs = 3, 3
	case 1:
		b.Changes = append(b.Changes, api.Change{From: 1, To: 0}, api.Change{From: 2, To: 0, Taken: true})
	}
	return b
}

// cote returns some small dovecote.
func (d *dice) cote() api.Cote {
	h := api.House{Columns: 3 + d.roll(6), Rings: 1 + d.roll(3)}
	h.Back = d.roll(min(3, h.Columns))
	h.Fore = d.roll(min(3, h.Columns-h.Back))
	for s := range h.Columns {
		if d.roll(4) == 0 {
			h.Closed = append(h.Closed, s)
		}
	}
	c := api.Cote{House: h, Breed: d.breed(), Last: 6 + d.roll(7), Moves: d.roll(4), Code: d.code(), Most: d.roll(8), RingsTo: d.roll(5)}
	worth := 5 + d.roll(6)
	for range d.roll(4) {
		c.Worths = append(c.Worths, worth)
		worth -= d.roll(8)
	}
	return c
}

// hole returns one of the first few holes of a dovecote, or one of the last ones.
func (d *dice) hole(c api.Cote) int {
	all := c.House.Columns * c.House.Rings
	return one(d, 0, 1, 2, all-1, all-2, d.roll(all))
}

// peep returns some look, which may tell nothing.
func (d *dice) peep(last int) api.Peep {
	p := api.Peep{Day: d.roll(last + 1)}
	for i := range p.Numbers {
		p.Numbers[i] = api.Span{Lo: 0, Hi: 9}
	}
	switch d.roll(4) {
	case 0:
		p.Numbers[0] = d.span(2)
	case 1:
		p.Numbers[1] = api.Span{Lo: 1, Hi: 9}
	}
	return p
}

// seen returns some sighting.
func (d *dice) seen(c api.Cote) api.Seen {
	s := api.Seen{Day: d.roll(c.Last + 1), Hole: d.hole(c)}
	for i := range s.Rings {
		s.Rings[i] = one(d, 0, 0, 1, 2)
	}
	return s
}

// deed returns some deed of a dovecote; it tells that others are withdrawn the more often the fewer IDs there are.
func (d *dice) deed(c api.Cote, id, ids int) api.Deed {
	x := api.Deed{ID: id, Kind: one(d, 1, 1, 1, 2, 3, 3, 4, 5)}
	switch x.Kind {
	case api.DePeep:
		x.Hole, x.Peep = d.hole(c), d.peep(c.Last)
	case api.DeTake:
		x.Hole, x.Day = d.hole(c), d.roll(c.Last+1)
	case api.DeSeen:
		x.Seen = d.seen(c)
	case api.DeFact:
		x.Claim, x.Days = d.claim(), d.span(20)
	case api.DeBack:
		x.Ref = 1 + d.roll(ids)
	}
	return x
}

// deeds returns some deeds of a dovecote, which came to be known on days up to 10.
func (d *dice) deeds(c api.Cote, most int) []api.Deed {
	var l []api.Deed
	n := d.roll(most + 1)
	for id := range n {
		x := d.deed(c, id+1, n)
		x.Known = d.roll(11)
		l = append(l, x)
	}
	return shuffled(d, l)
}

// question returns some question, which may have no answer.
func (d *dice) question(c api.Cote) api.Act {
	q := api.Act{Kind: api.AcRound + d.roll(7), Known: d.roll(13)}
	day := d.roll(c.Last + 2)
	switch q.Kind {
	case api.AcRound:
		q.A = day
	case api.AcNest:
		q.A, q.B, q.C = d.hole(c)+d.roll(2), d.roll(3), day
	case api.AcClash:
		q.A = d.hole(c) + d.roll(2)
	case api.AcRight:
		q.Claim, q.A = d.claim(), day
	case api.AcTaking, api.AcDue:
		q.A, q.B = d.roll(5), day
	}
	return q
}

// act returns some act.
func (d *dice) act(c api.Cote, day *int) api.Act {
	switch d.roll(8) {
	case 0:
		*day = max(*day+d.roll(4)-d.roll(2), 0)
		return api.Act{Kind: api.AcDay, A: *day}
	case 1, 2, 3:
		return api.Act{Kind: api.AcDeed, Deed: d.deed(c, 1+d.roll(30), 30)}
	}
	return d.question(c)
}

// season returns some season.
func (d *dice) season(acts int) api.Season {
	s := api.Season{Cote: d.cote()}
	day := 0
	for range acts {
		s.Acts = append(s.Acts, d.act(s.Cote, &day))
	}
	return s
}

// isUpTo says whether a number is from 0 to a greatest one.
func isUpTo(n, most int) bool { return 0 <= n && n <= most }

// isSpan says whether a span is one within 0 to a greatest number.
func isSpan(s api.Span, most int) bool { return 0 <= s.Lo && s.Lo <= s.Hi && s.Hi <= most }

// What a name is not, and what it can be.
var (
	reserved = regexp.MustCompile(`^(fact|rule|says|not|if|unless|rank|days|to|known|gives)$`)
	word     = regexp.MustCompile(`^[a-z]{1,24}$`)
)

// isName says whether a text is a name.
func isName(text string) bool { return word.MatchString(text) && !reserved.MatchString(text) }

// isDeed says whether a deed is formed, by the chapter's words.
func isDeed(c api.Cote, d api.Deed) bool {
	own := api.Deed{ID: d.ID, Known: d.Known, Kind: d.Kind}
	isHole := func(n int) bool { return isUpTo(n, c.House.Columns*c.House.Rings-1) }
	is := false
	switch d.Kind {
	case api.DePeep:
		own.Hole, own.Peep = d.Hole, d.Peep
		n := d.Peep.Numbers
		is = isHole(d.Hole) && d.Peep.ID == 0 && isUpTo(d.Peep.Day, c.Last) && isSpan(n[0], 9) && isSpan(n[1], 9) && isSpan(n[2], 9)
	case api.DeTake:
		own.Hole, own.Day = d.Hole, d.Day
		is = isHole(d.Hole) && isUpTo(d.Day, c.Last)
	case api.DeSeen:
		own.Seen = d.Seen
		is = d.Seen.ID == 0 && isUpTo(d.Seen.Day, c.Last) && isHole(d.Seen.Hole)
		for _, r := range d.Seen.Rings {
			is = is && isUpTo(r, 9)
		}
	case api.DeFact:
		own.Claim, own.Days = d.Claim, d.Days
		is = isName(d.Claim.Thing) && isSpan(d.Days, 730)
	case api.DeBack:
		own.Ref = d.Ref
		is = 1 <= d.Ref && d.Ref <= 1<<20
	}
	return is && d == own && 1 <= d.ID && d.ID <= 1<<20 && isUpTo(d.Known, 730)
}

// isAct says whether an act is formed, by the chapter's table.
func isAct(a api.Act) bool {
	own := api.Act{Kind: a.Kind, Known: a.Known}
	is := false
	switch a.Kind {
	case api.AcDay:
		own.A, own.Known = a.A, 0
		is = isUpTo(a.A, 730)
	case api.AcDeed:
		own.Deed, own.Known = a.Deed, 0
		is = a.Deed.Known == 0 && isDeed(api.Cote{House: api.House{Columns: 120, Rings: 16}, Last: 730}, a.Deed)
	case api.AcRound:
		own.A = a.A
		is = isUpTo(a.A, 730)
	case api.AcNest:
		own.A, own.B, own.C = a.A, a.B, a.C
		is = isUpTo(a.A, 1919) && isUpTo(a.B, 2) && isUpTo(a.C, 730)
	case api.AcClash:
		own.A = a.A
		is = isUpTo(a.A, 1919)
	case api.AcBirds:
		is = true
	case api.AcRight:
		own.A, own.Claim = a.A, a.Claim
		is = isUpTo(a.A, 730) && isName(a.Claim.Thing)
	case api.AcTaking, api.AcDue:
		own.A, own.B = a.A, a.B
		is = isUpTo(a.A, 500) && isUpTo(a.B, 730)
	}
	return is && a == own && isUpTo(a.Known, 730)
}

// stands says whether a deed stands, as known on a day.
func stands(l []api.Deed, d api.Deed, known int) bool {
	for _, b := range l {
		if b.Kind == api.DeBack && b.Known <= known && b.Ref == d.ID {
			return false
		}
	}
	return d.Kind != api.DeBack && d.Known <= known
}

// standingOf returns the deeds of a kind that stand, by ID; of all kinds if it is 0.
func standingOf(l []api.Deed, kind, known int) []api.Deed {
	var all []api.Deed
	for _, d := range l {
		if stands(l, d, known) && (kind == 0 || kind == d.Kind) {
			all = append(all, d)
		}
	}
	slices.SortFunc(all, func(a, b api.Deed) int { return a.ID - b.ID })
	return all
}

// holesOf returns the holes of a day.
func holesOf(c api.Cote, l []api.Deed, from, known int) []int {
	var holes []int
	for hole := range c.House.Columns * c.House.Rings {
		if slices.ContainsFunc(standingOf(l, 0, known), func(d api.Deed) bool {
			return d.Hole == hole && (d.Kind == api.DePeep && d.Peep.Day >= from || d.Kind == api.DeTake && d.Day >= from)
		}) {
			holes = append(holes, hole)
		}
	}
	return holes
}

// nestOf returns the nest of a hole.
func nestOf(c api.Cote, l []api.Deed, hole, known int) api.Nest {
	n := api.Nest{Breed: c.Breed, Last: c.Last}
	for _, d := range standingOf(l, api.DePeep, known) {
		if d.Hole == hole {
			n.Peeps = append(n.Peeps, api.Peep{ID: d.ID, Day: d.Peep.Day, Numbers: d.Peep.Numbers})
		}
	}
	for _, d := range standingOf(l, api.DeTake, known) {
		if d.Hole == hole {
			n.Takings = append(n.Takings, api.Taking{ID: d.ID, Day: d.Day})
		}
	}
	return n
}

// rollOf returns the roll.
func rollOf(c api.Cote, l []api.Deed, known int) api.Roll {
	r := api.Roll{Moves: c.Moves}
	for _, d := range standingOf(l, api.DeSeen, known) {
		r.Seen = append(r.Seen, api.Seen{ID: d.ID, Day: d.Seen.Day, Hole: d.Seen.Hole, Rings: d.Seen.Rings})
	}
	return r
}

// codeOf returns the code.
func codeOf(c api.Cote, l []api.Deed, known int) api.Code {
	code := api.Code{Facts: slices.Clone(c.Code.Facts), Rules: c.Code.Rules}
	for _, d := range standingOf(l, api.DeFact, known) {
		code.Facts = append(code.Facts, api.Fact{Claim: d.Claim, Days: d.Days, Known: d.Known})
	}
	return code
}

// loftOf returns the loft of a day, and its first error.
func loftOf(c api.Cote, l []api.Deed, day, known int) (api.Loft, api.Errno) {
	if day < 0 || day > c.Last {
		return api.Loft{}, api.ErrArg
	}
	holes := holesOf(c, l, 0, known)
	loft := api.Loft{Perches: []api.Perch{{ID: 1, Above: -1, Least: 0, Most: c.Most}}}
	for ring := range c.House.Rings {
		if slices.ContainsFunc(holes, func(hole int) bool { return hole/c.House.Columns == ring }) {
			loft.Perches = append(loft.Perches, api.Perch{ID: 2 + ring, Above: 0, Least: 0, Most: c.RingsTo})
		}
	}
	for _, hole := range holes {
		n := nestOf(c, l, hole, known)
		x, e := nest.Ends(n, api.NsSquabs, day)
		if e != api.OK {
			return api.Loft{}, e
		}
		p := api.Perch{ID: 100 + hole, Least: 0}
		p.Above = slices.IndexFunc(loft.Perches, func(r api.Perch) bool { return r.ID == 2+hole/c.House.Columns })
		for i, w := range c.Worths {
			if i < x.Span.Lo {
				p.Worths = append(p.Worths, w)
				p.Most++
			}
		}
		loft.Perches = append(loft.Perches, p)
	}
	if e := share.Check(loft); e != api.OK {
		return api.Loft{}, e
	}
	return loft, api.OK
}

// replyOf returns the reply to a formed question, as the chapter has it; the deeds have no errors.
func replyOf(c api.Cote, l []api.Deed, q api.Act) api.Told {
	if q.Kind == api.AcNest || q.Kind == api.AcClash {
		if q.A >= c.House.Columns*c.House.Rings {
			return api.Told{Err: api.ErrArg}
		}
	}
	n, code := nestOf(c, l, q.A, q.Known), codeOf(c, l, q.Known)
	var t api.Told
	switch q.Kind {
	case api.AcRound:
		t.Round, t.Err = round.Fewest(c.House, holesOf(c, l, q.A, q.Known))
	case api.AcNest:
		t.Number, t.Err = nest.Ends(n, q.B, q.C)
	case api.AcClash:
		t.Stays, t.Is, t.Err = nest.Contradiction(n)
	case api.AcBirds:
		t.Birds, t.Err = rings.Fewest(rollOf(c, l, q.Known))
	case api.AcRight:
		t.Stand, t.Err = right.Is(code, q.A, q.Known, q.Claim)
		if t.Err == api.OK {
			t.Ruling, t.Err = right.Judge(code, q.A, q.Known)
		}
	case api.AcTaking:
		var loft api.Loft
		if loft, t.Err = loftOf(c, l, q.B, q.Known); t.Err == api.OK {
			t.Taken, t.Err = share.Best(loft, q.A)
		}
	case api.AcDue:
		return dueOf(code, q)
	}
	return t
}

// dueOf returns the reply to who gets what.
func dueOf(code api.Code, q api.Act) api.Told {
	gifts, _, e := right.Gifts(code, q.B, q.Known)
	if e != api.OK {
		return api.Told{Err: e}
	}
	if len(gifts) > 20 {
		return api.Told{Err: api.ErrLimit}
	}
	t := api.Told{Left: q.A}
	for _, g := range gifts {
		gets := min(g.Birds, 500, t.Left)
		t.Owed = append(t.Owed, api.Owed{Who: g.Who, Birds: gets})
		t.Left -= gets
	}
	return t
}

// isRight says whether a reply to a formed question is right, as the chapter has it; the deeds have no errors.
func isRight(c api.Cote, l []api.Deed, q api.Act, t api.Told) bool {
	r := replyOf(c, l, q)
	if t.Err == api.OK && r.Err == api.OK {
		n := nestOf(c, l, q.A, q.Known)
		switch q.Kind {
		case api.AcRound:
			if len(t.Round.Stands) == len(r.Round.Stands) && round.CheckFewest(c.House, holesOf(c, l, q.A, q.Known), t.Round) == api.OK {
				t.Round = r.Round
			}
		case api.AcNest:
			if t.Number.Span == r.Number.Span && nest.CheckEnds(n, q.B, q.C, t.Number) == api.OK {
				t.Number = r.Number
			}
		case api.AcClash:
			if t.Is && nest.CheckContradiction(n, t.Stays) == api.OK {
				t.Stays = r.Stays
			}
		case api.AcBirds:
			if len(t.Birds.Chains) == len(r.Birds.Chains) && rings.CheckFewest(rollOf(c, l, q.Known), t.Birds) == api.OK {
				t.Birds = r.Birds
			}
		case api.AcTaking:
			loft, _ := loftOf(c, l, q.B, q.Known)
			if len(t.Taken.Given) > 0 && t.Taken.Given[0] == q.A && share.CheckBest(loft, t.Taken) == api.OK {
				t.Taken = r.Taken
			}
		}
	}
	return alike(t, r)
}

// alike says whether two things are the same, be their empty lists nil or not.
func alike[T any](a, b T) bool { return alikeValues(reflect.ValueOf(a), reflect.ValueOf(b)) }

func alikeValues(a, b reflect.Value) bool {
	switch a.Kind() {
	case reflect.Slice, reflect.Array:
		same := a.Len() == b.Len()
		for i := 0; same && i < a.Len(); i++ {
			same = alikeValues(a.Index(i), b.Index(i))
		}
		return same
	case reflect.Struct:
		for i := range a.NumField() {
			if !alikeValues(a.Field(i), b.Field(i)) {
				return false
			}
		}
		return true
	}
	return a.Interface() == b.Interface()
}

// isNothing says whether a result is a zero value, or an empty list.
func isNothing[T any](x T) bool {
	var nothing T
	return alike(x, nothing)
}

// copyOf returns a thing in new memory, with so many elements behind each of its lists, up to their capacity.
func copyOf[T any](x T, behind int) T {
	var y T
	copyValues(reflect.ValueOf(&y).Elem(), reflect.ValueOf(x), behind)
	return y
}

// wholeOf returns a thing in new memory, in which what lies behind its lists is in them.
func wholeOf[T any](x T) T { return copyOf(x, -1) }

func copyValues(to, from reflect.Value, behind int) {
	switch from.Kind() {
	case reflect.Slice:
		if behind < 0 {
			from = from.Slice(0, from.Cap())
		}
		n := from.Len() + max(behind, 0)
		l := reflect.MakeSlice(from.Type(), n, n)
		for i := range from.Len() {
			copyValues(l.Index(i), from.Index(i), behind)
		}
		to.Set(l.Slice(0, from.Len()))
	case reflect.Array:
		for i := range from.Len() {
			copyValues(to.Index(i), from.Index(i), behind)
		}
	case reflect.Struct:
		for i := range from.NumField() {
			copyValues(to.Field(i), from.Field(i), behind)
		}
	default:
		to.Set(from)
	}
}

// leaves returns all numbers, bools and texts of a thing, and all of its lists.
func leaves(v reflect.Value) (single, lists []reflect.Value) {
	switch v.Kind() {
	case reflect.Slice, reflect.Array, reflect.Struct:
		n := v.NumField
		at := v.Field
		if v.Kind() != reflect.Struct {
			n, at = v.Len, v.Index
		}
		for i := range n() {
			s, l := leaves(at(i))
			single, lists = append(single, s...), append(lists, l...)
		}
		if v.Kind() == reflect.Slice {
			lists = append(lists, v)
		}
		return single, lists
	}
	return []reflect.Value{v}, nil
}

// strange are numbers of which most are not what they should be.
var strange = []int{-1 << 63, -1, 0, 1, 2, 3, 5, 8, 9, 10, 11, 12, 13, 35, 36, 500, 501, 730, 731, 1919, 1920, 1 << 20, 1<<20 + 1, 1<<63 - 1}

// names are texts of which most are no names.
var names = []string{"", "a", "fast", "day", "not", "fact", "gives", "rule", "A", "a b", " a", "a1", "0", "é", "aaaabbbbccccddddeeeeffff", "aaaabbbbccccddddeeeeffffg"}

// changes returns things that differ from one in a number, a bool or a text; also in more than one number if it says so.
func changes[T any](x T, pairs bool) []T {
	var all []T
	count, _ := leaves(reflect.ValueOf(x))
	for i := range count {
		for _, n := range strange {
			y := copyOf(x, 0)
			l, _ := leaves(reflect.ValueOf(&y).Elem())
			set(l[i], n)
			all = append(all, y)
			if pairs && i > 0 {
				y = copyOf(y, 0)
				l, _ = leaves(reflect.ValueOf(&y).Elem())
				set(l[i-1], n)
				all = append(all, y)
			}
		}
	}
	return all
}

// set sets a number, a bool or a text to what a number stands for.
func set(v reflect.Value, n int) {
	switch v.Kind() {
	case reflect.Int:
		v.SetInt(int64(n))
	case reflect.Bool:
		v.SetBool(!v.Bool())
	case reflect.String:
		v.SetString(names[max(n, -n, 0)%len(names)])
	}
}

// spoil writes into all numbers, bools and texts of the lists of a thing, and behind them.
func spoil[T any](x T) {
	y := &x
	_, lists := leaves(reflect.ValueOf(y).Elem())
	for _, l := range lists {
		whole := l.Slice(0, l.Cap())
		for i := range whole.Len() {
			single, _ := leaves(whole.Index(i))
			for _, v := range single {
				set(v, 77)
			}
		}
	}
}

// shares says whether a list of a result has an element, or one behind its end, that another list has, and which list.
func (r result[T]) shares() (int, bool) {
	_, lists := leaves(reflect.ValueOf(&r.X).Elem())
	elements := map[uintptr]bool{} // by where they are
	for i, l := range lists {
		for n := range l.Cap() {
			at := l.Pointer() + uintptr(n)*l.Type().Elem().Size()
			if elements[at] {
				return i, true
			}
			elements[at] = true
		}
	}
	return 0, false
}
