package house_test

import (
	"slices"
	"testing"

	"potence/api"
	"potence/house"
	"potence/nest"
)

// lived is a true life of a nest, and the days behind which something was taken.
type lived struct {
	life  []int
	taken []int
}

// live returns a true life of a breed, run by run; false if it comes to an end too early.
func (d *dice) live(b api.Breed, last int) (lived, bool) {
	var l lived
	phase := d.roll(len(b.Phases))
	age := 1 + d.roll(max(b.Phases[phase].Most, 3))
	for day := 0; ; day++ {
		l.life = append(l.life, phase)
		if day == last {
			return l, true
		}
		p := b.Phases[phase]
		if p.Most == 0 || age < p.Most {
			if age < p.Least || d.roll(3) > 0 {
				age++
				continue
			}
		}
		var next []api.Change
		for _, x := range b.Changes {
			if x.From == phase && age >= p.Least {
				next = append(next, x)
			}
		}
		if len(next) == 0 {
			return lived{}, false
		}
		x := one(d, next...)
		if x.Taken {
			l.taken = append(l.taken, day)
		}
		phase, age = x.To, 1
	}
}

// around returns a span within 0 to 9 in which a number lies.
func (d *dice) around(n int) api.Span {
	return api.Span{Lo: max(n-d.roll(3), 0), Hi: min(n+d.roll(3), 9)}
}

// truly returns deeds that are true of a life in a hole, and come to be known up to a day.
func (d *dice) truly(b api.Breed, l lived, hole, id, known int) []api.Deed {
	var deeds []api.Deed
	for _, day := range l.taken {
		deeds = append(deeds, take(id, d.roll(known+1), hole, day))
		id++
	}
	for range 1 + d.roll(4) {
		day := d.roll(len(l.life))
		p := b.Phases[l.life[day]]
		x := peep(id, d.roll(known+1), hole, day, false)
		for what, n := range []int{p.Eggs, p.Squabs, p.Old} {
			if d.roll(2) == 0 {
				x.Peep.Numbers[what] = d.around(n)
			}
		}
		deeds = append(deeds, x)
		id++
	}
	return deeds
}

// falsely returns deeds that do not count, as known on a day: they are withdrawn, or come to be known later.
func (d *dice) falsely(c api.Cote, hole, id, known int) []api.Deed {
	x := take(id, known+1, hole, d.roll(c.Last))
	if d.roll(2) == 0 {
		x = peep(id, d.roll(known+1), hole, d.roll(c.Last), true)
		x.Peep.Numbers[0] = span(9, 9)
		return []api.Deed{x, back(id+1, d.roll(known+1), id)}
	}
	return []api.Deed{x}
}

// trueLives returns a dovecote with lives in some of its holes, and deeds that are true of them, as known on a day.
func (d *dice) trueLives(known int) (api.Cote, map[int]lived, []api.Deed) {
	c := d.cote()
	if d.roll(3) > 0 {
		c.Most, c.RingsTo, c.Worths = 9, 5, []int{9, 7, 4}
	}
	lives := map[int]lived{}
	var l []api.Deed
	for id := 1; len(lives) < 3; id += 20 {
		hole := d.roll(c.House.Columns * c.House.Rings)
		life, is := d.live(c.Breed, c.Last)
		if _, taken := lives[hole]; taken || !is {
			continue
		}
		lives[hole] = life
		l = append(l, d.truly(c.Breed, life, hole, id, known)...)
		l = append(l, d.falsely(c, hole, id+17, known)...)
	}
	return c, lives, shuffled(d, l)
}

// TestTrueNests asks for numbers, contradictions and takings of nests of which the true lives are known.
func TestTrueNests(t *testing.T) {
	d := dice(15)
	narrow, takings := 0, 0
	for range 150 {
		known := d.roll(8)
		c, lives, l := d.trueLives(known)
		for hole, life := range lives {
			n, e := house.NestOf(c, l, hole, known)
			if _, fits, f := nest.Fits(n, life.life); e != api.OK || f != api.OK || !fits {
				t.Fatalf("the life %v of %+v is not possible: errors %d, %d", life, n, e, f)
			}
			if x := house.Answer(c, l, api.Act{Kind: api.AcClash, A: hole, Known: known}); x.Err != api.OK || x.Is {
				t.Fatalf("P10.12: a contradiction of the hole %d: %+v", hole, x)
			}
			for day, phase := range life.life {
				p := c.Breed.Phases[phase]
				for what, number := range []int{p.Eggs, p.Squabs, p.Old} {
					x := house.Answer(c, l, api.Act{Kind: api.AcNest, A: hole, B: what, C: day, Known: known})
					if x.Err != api.OK || number < x.Number.Span.Lo || number > x.Number.Span.Hi {
						t.Fatalf("P10.12: %d of %d in the hole %d on the day %d: %+v", number, what, hole, day, x)
					}
					if what < 2 && x.Number.Span.Hi == x.Number.Span.Lo {
						narrow++
					}
				}
			}
		}
		for day := range c.Last + 1 {
			takings += trueTakings(t, c, l, lives, day, known)
		}
	}
	if narrow < 1000 || takings < 1000 {
		t.Error("too little is known of the nests:", narrow, takings)
	}
}

// trueTakings reports takings of a day that take more squabs out of a hole than are there; it returns how many squabs they take.
func trueTakings(t *testing.T, c api.Cote, l []api.Deed, lives map[int]lived, day, known int) int {
	t.Helper()
	loft, e := house.LoftOf(c, l, day, known)
	fails(t, "P10.12: LoftOf", e, api.OK)
	sum := 0
	for birds := range 10 {
		x := house.Answer(c, l, api.Act{Kind: api.AcTaking, A: birds, B: day, Known: known})
		if x.Err == api.ErrArg {
			break
		}
		for i, n := range x.Taken.Given {
			life, is := lives[loft.Perches[i].ID-100]
			if is && n > c.Breed.Phases[life.life[day]].Squabs {
				t.Fatalf("P10.12: %d squabs from %+v on the day %d, with the life %v", n, loft.Perches[i], day, life)
			}
			if is {
				sum += n
			}
		}
	}
	return sum
}

// TestTrueBirds asks for the birds of sightings of so many true ones, which move and lose rings.
func TestTrueBirds(t *testing.T) {
	d := dice(16)
	fewer := map[bool]int{}
	for range 600 {
		c, known := d.cote(), d.roll(8)
		c.House.Rings, c.Last = 16, 60
		var l []api.Deed
		birds := 1 + d.roll(5)
		for bird := range birds {
			s := api.Seen{Day: d.roll(10), Hole: d.roll(40)}
			for i := range s.Rings {
				s.Rings[i] = one(&d, 0, 0, 1)
			}
			for i := range 1 + d.roll(5) {
				x := sight(1+10*bird+i, d.roll(known+1), s.Day, s.Hole, s.Rings[:]...)
				l = append(l, x)
				days := 1 + d.roll(5)
				s.Day += days
				s.Hole = min(max(s.Hole+d.roll(2*c.Moves*days+1)-c.Moves*days, 0), 47)
				if d.roll(3) == 0 {
					s.Rings[d.roll(4)] = 0
				}
			}
		}
		l = append(l, sight(101, known+1, 0, 47, 9, 9, 9, 9), sight(102, 0, 0, 46, 9, 9, 8, 8), back(103, known, 102))
		l = shuffled(&d, l)
		x := house.Answer(c, l, api.Act{Kind: api.AcBirds, Known: known})
		if x.Err != api.OK || len(x.Birds.Chains) > birds || len(x.Birds.Apart) > birds {
			t.Fatalf("P10.13: %d birds of %+v: %+v", birds, l, x)
		}
		fewer[len(x.Birds.Chains) < birds]++
		if x := house.Answer(c, slices.DeleteFunc(l, func(s api.Deed) bool { return s.ID > 100 }), api.Act{Kind: api.AcBirds, Known: known + 1}); len(x.Birds.Chains) > birds {
			t.Fatalf("P10.13: %d birds of %+v: %+v", birds, l, x)
		}
	}
	if fewer[false] < 100 || fewer[true] < 50 {
		t.Error("the birds are too much alike:", fewer)
	}
}
