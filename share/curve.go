package share

import (
	"slices"

	"potence/api"
)

// maxPrice is the greatest price; the least one is as far below 0.
const maxPrice = 1 << 20

// bird is a bird that can be taken: what it is worth, and the hole (its index) that gives it.
type bird struct{ worth, hole int }

// isDearer says whether a bird is worth more than another one.
func isDearer(a, b bird) bool { return a.worth > b.worth }

// curve is what can be given: any number from least to that of the birds, or nothing at all, if these are fewer. As many of the birds, from the first one on, are worth most; each one behind the least is worth no more than the one before it.
type curve struct {
	least int
	birds []bird
}

// isNothing says whether no number can be given, not even 0.
func (c curve) isNothing() bool { return c.least > len(c.birds) }

// span returns the least and the greatest number that can be given.
func (c curve) span() api.Span { return api.Span{Lo: c.least, Hi: len(c.birds)} }

// has says whether a number can be given.
func (c curve) has(n int) bool { return c.least <= n && n <= len(c.birds) }

// worth returns what so many birds are worth at most.
func (c curve) worth(n int) int {
	sum := 0
	for _, b := range c.birds[:n] {
		sum += b.worth
	}
	return sum
}

// prices returns between which ends the price of a bird lies if so many are given: a further one is worth no more, and the last one no less.
func (c curve) prices(n int) api.Span {
	s := api.Span{Lo: -maxPrice, Hi: maxPrice}
	if n < len(c.birds) {
		s.Lo = c.birds[n].worth
	}
	if n > c.least {
		s.Hi = c.birds[n-1].worth
	}
	return s
}

// within returns what of a curve is left if no numbers are given but those of a span.
func (c curve) within(s api.Span) curve {
	return curve{max(c.least, s.Lo), c.birds[:min(len(c.birds), s.Hi)]}
}

// and returns what two can give together.
func (c curve) and(d curve) curve {
	if c.isNothing() || d.isNothing() {
		return curve{least: 1}
	}
	must := slices.Concat(c.birds[:c.least], d.birds[:d.least])
	more := merged(c.birds[c.least:], d.birds[d.least:], isDearer)
	return curve{len(must), slices.Concat(must, more)}
}

// merged returns the elements of two ordered lists as one ordered list.
func merged[T any](a, b []T, isBefore func(x, y T) bool) []T {
	all := make([]T, 0, len(a)+len(b))
	for len(a) > 0 && len(b) > 0 {
		if isBefore(b[0], a[0]) {
			all = append(all, b[0])
			b = b[1:]
		} else {
			all = append(all, a[0])
			a = a[1:]
		}
	}
	return append(append(all, a...), b...)
}
