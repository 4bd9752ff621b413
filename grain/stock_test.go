package grain_test

import (
	"testing"

	"potence/api"
	"potence/grain"
)

// isStock reports another Stock than is wanted.
func isStock(t *testing.T, l []api.Line, keep, day, there, bad int) {
	t.Helper()
	n, gone, e := grain.Stock(l, keep, day)
	if e != api.OK || n != there || gone != bad {
		t.Errorf("P8.8: Stock for %d nights, on the day %d: %d, %d, error %d, want %d, %d", keep, day, n, gone, e, there, bad)
	}
}

// isShort reports another Short than is wanted, which is none if it is less than 0.
func isShort(t *testing.T, l []api.Line, keep, want int) {
	t.Helper()
	day, is, e := grain.Short(l, keep)
	if e != api.OK || is != (want >= 0) || day != max(0, want) {
		t.Errorf("P8.8: Short for %d nights: %d, %v, error %d, want %d", keep, day, is, e, want)
	}
}

func TestExamplesOfLedgers(t *testing.T) {
	l, e := grain.Lines(example(), false, proved())
	if e != api.OK {
		t.Fatal("P8.11: Lines of the examples:", e)
	}
	isStock(t, l, 2, 0, 3, 0)
	isStock(t, l, 0, 1, 0, 3)
	isShort(t, l, 2, -1)
	isShort(t, l, 0, 1)
	n, e := grain.Purse(l, 3)
	is(t, "P8.9: Purse of the examples", n, e, -77)
}

func TestStock(t *testing.T) {
	// The oldest grain goes out first; what is bought on a day goes out on it.
	l := []api.Line{buy(1, 3, 5, 0), feed(2, 4, 6), buy(3, 4, 4, 9), feed(4, 3, 1), feed(5, 7, 1), pay(6, 0, 5), dung(7, 3, 9), buy(8, 3, 1, 1)}
	for day, want := range []int{0, 0, 0, 5, 3, 3, 3, 2, 2, 2} {
		isStock(t, l, 60, day, want, 0)
	}
	for day, want := range [][2]int{{0, 0}, {0, 0}, {0, 0}, {5, 0}, {3, 0}, {3, 0}, {3, 0}, {2, 0}, {0, 2}, {0, 2}} {
		isStock(t, l, 3, day, want[0], want[1])
	}
	for day, want := range [][2]int{{0, 0}, {0, 0}, {0, 0}, {5, 0}, {0, 5}, {0, 5}, {0, 5}, {0, 5}} {
		isStock(t, l, 0, day, want[0], want[1])
	}
	isStock(t, l, 3, 730, 0, 2)
	isStock(t, l, 60, 64, 2, 0)
	isStock(t, l, 60, 65, 0, 2)
	isStock(t, nil, 0, 0, 0, 0)
	isStock(t, nil, 60, 730, 0, 0)
	isStock(t, []api.Line{buy(1, 730, 100000, 0)}, 0, 730, 100000, 0)
	isStock(t, []api.Line{buy(1, 729, 100000, 0)}, 0, 730, 0, 100000)
	isStock(t, []api.Line{buy(1, 0, 100000, 0), buy(2, 0, 100000, 0), feed(3, 1, 99999), feed(4, 1, 2)}, 1, 1, 99999, 0)
	isStock(t, []api.Line{buy(1, 0, 100000, 0), buy(2, 0, 100000, 0), feed(3, 1, 99999), feed(4, 1, 2)}, 1, 2, 0, 99999)
}

func TestShort(t *testing.T) {
	isShort(t, nil, 5, -1)
	isShort(t, []api.Line{feed(1, 0, 1)}, 5, 0)
	isShort(t, []api.Line{feed(1, 730, 1)}, 60, 730)
	isShort(t, []api.Line{feed(1, 730, 1), buy(2, 730, 1, 0)}, 0, -1)
	isShort(t, []api.Line{feed(1, 5, 1), buy(2, 6, 1, 0)}, 60, 5)
	isShort(t, []api.Line{feed(1, 9, 3), feed(2, 5, 3), buy(3, 0, 5, 0)}, 60, 9)
	isShort(t, []api.Line{feed(1, 9, 3), feed(2, 5, 2), feed(4, 5, 4), buy(3, 0, 5, 0)}, 60, 5)
	isShort(t, []api.Line{feed(1, 5, 3), buy(2, 0, 5, 0)}, 5, -1)
	isShort(t, []api.Line{feed(1, 5, 3), buy(2, 0, 5, 0)}, 4, 5)
	isShort(t, []api.Line{feed(1, 5, 3), buy(2, 0, 5, 0), buy(3, 1, 3, 0)}, 4, -1)
	isShort(t, []api.Line{buy(1, 0, 5, 0), pay(2, 3, 9), dung(3, 4, 9)}, 0, -1)
	// If there is less, all there is goes out, and nothing is owed to later days.
	isShort(t, []api.Line{feed(1, 5, 3), buy(2, 5, 2, 0)}, 4, 5)
	isStock(t, []api.Line{feed(1, 5, 3), buy(2, 5, 2, 0), buy(3, 6, 4, 0), feed(4, 6, 1)}, 4, 6, 3, 0)
}

// TestStockOfAllLedgers holds Stock and Short to the chapter's words, bushel by bushel.
func TestStockOfAllLedgers(t *testing.T) {
	d := dice(15)
	var bad, short int
	for range 400 {
		first, last := d.roll(700), 1+d.roll(12)
		l := d.ledgerOf(d.roll(16), 60, last)
		for i := range l {
			l[i].Day += first
		}
		keep := d.roll(5)
		h := historyOf(l, keep)
		for day := max(0, first-2); day <= min(first+last+8, 730); day++ {
			isStock(t, l, keep, day, h.there[day], h.bad[day])
		}
		isStock(t, l, keep, 730, h.there[730], h.bad[730])
		want := -1
		for day := 730; day >= 0; day-- {
			if h.lack[day] > 0 {
				want = day
			}
		}
		if isShort(t, l, keep, want); t.Failed() {
			t.Fatal(l)
		}
		bad += h.bad[730]
		if want >= 0 {
			short++
		}
	}
	if bad < 500 || short < 50 || short > 350 {
		t.Error("the ledgers are too much alike:", bad, short)
	}
}
