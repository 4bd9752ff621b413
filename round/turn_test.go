package round_test

import (
	"math"
	"slices"
	"testing"

	"potence/api"
	"potence/round"
)

func TestGaps(t *testing.T) {
	h, _ := example()
	for _, x := range []struct{ stands, want []int }{
		{[]int{1, 6, 9}, []int{5, 3, 4}},
		{[]int{3}, []int{12}},
		{[]int{0}, []int{12}},
		{[]int{0, 11}, []int{11, 1}},
		{nil, nil},
		{[]int{0, 1, 2, 3, 6, 7, 8, 9, 10, 11}, []int{1, 1, 1, 3, 1, 1, 1, 1, 1, 1}},
	} {
		got, e := round.Gaps(h, x.stands)
		same(t, "P1.6: gaps", got, e, x.want...)
	}
}

// shortest returns the length of the shortest walk from a column that comes past a set of columns, found by going one column at a time.
func shortest(columns, from, set int) int {
	type place struct{ at, seen int }
	now := []place{{from, 1 << from}}
	known := map[place]bool{now[0]: true}
	for length := 0; ; length++ {
		var next []place
		for _, p := range now {
			if set&^p.seen == 0 {
				return length
			}
			for _, step := range []int{1, columns - 1} {
				q := place{(p.at + step) % columns, p.seen}
				q.seen |= 1 << q.at
				if !known[q] {
					known[q] = true
					next = append(next, q)
				}
			}
		}
		now = next
	}
}

func TestShortestTurnings(t *testing.T) {
	for columns := 3; columns <= 8; columns++ {
		h := api.House{Columns: columns, Rings: 1}
		for from := range columns {
			for set := range 1 << columns {
				stands := listOf(set)
				x, e := round.Turn(h, from, stands)
				if e != api.OK || len(x.Turns) > 2 || x.Length != shortest(columns, from, set) {
					t.Fatalf("P1.7: %d columns, from %d past %v: %v, error %d", columns, from, stands, x, e)
				}
				if e := round.CheckTurn(h, from, stands, x); e != api.OK {
					t.Fatalf("P1.13: %d columns, from %d past %v: %v, checked with %d", columns, from, stands, x, e)
				}
				gaps, e := round.Gaps(h, listOf(set|1<<from))
				if e != api.OK || x.Length > columns-1 || x.Length < columns-slices.Max(gaps) {
					t.Fatalf("P1.13: %d columns, from %d past %v: %v, gaps %v", columns, from, stands, x, gaps)
				}
			}
		}
	}
}

func TestTurn(t *testing.T) {
	h, _ := example()
	for _, x := range []struct {
		from   int
		stands []int
		length int
	}{
		{0, []int{1, 6, 9}, 8},
		{4, nil, 0},
		{4, []int{6}, 2},
		{4, []int{3}, 1},
		{7, []int{7}, 0},
		{0, []int{11}, 1},
		{11, []int{0}, 1},
		{5, []int{0, 1, 2, 3, 6, 7, 8, 9, 10, 11}, 10},
	} {
		got, e := round.Turn(h, x.from, x.stands)
		if e != api.OK || got.Length != x.length || len(got.Turns) > 2 || round.CheckTurn(h, x.from, x.stands, got) != api.OK {
			t.Errorf("P1.7: from %d past %v: %v, error %d", x.from, x.stands, got, e)
		}
	}
	g := api.House{Columns: 120, Rings: 1}
	got, e := round.Turn(g, 60, upTo(120))
	if e != api.OK || got.Length != 119 || round.CheckTurn(g, 60, upTo(120), got) != api.OK {
		t.Error("P1.7: past all stands:", got, e)
	}
}

func TestCheckTurn(t *testing.T) {
	h, _ := example()
	forth := make([]int, 40)
	for i := range forth {
		forth[i] = 12
	}
	for _, x := range []struct {
		turns  []int
		length int
		e      api.Errno
	}{
		{[]int{1, -7}, 8, api.OK},
		{[]int{9}, 9, api.OK},
		{[]int{-11}, 11, api.OK},
		{[]int{-6, 7}, 13, api.OK},
		{[]int{12}, 12, api.OK},
		{[]int{-12}, 12, api.OK},
		{[]int{1, -1, 1, -7}, 10, api.OK},
		{[]int{4, 5}, 9, api.OK},
		{forth, 480, api.OK},
		{append(forth, 1), 481, api.ErrLimit},
		{make([]int, 41), 3, api.ErrLimit},
		{[]int{13}, 13, api.ErrProof},
		{[]int{-13}, 13, api.ErrProof},
		{[]int{1, 0, -7}, 8, api.ErrProof},
		{[]int{0}, 0, api.ErrProof},
		{[]int{1, -6}, 7, api.ErrProof},
		{[]int{8}, 8, api.ErrProof},
		{[]int{9}, 8, api.ErrProof},
		{[]int{9}, 10, api.ErrProof},
		{[]int{1, -7}, -6, api.ErrProof},
		{[]int{1, -7}, 0, api.ErrProof},
		{nil, 0, api.ErrProof},
		{[]int{math.MinInt}, math.MinInt, api.ErrProof},
		{[]int{math.MaxInt, math.MaxInt}, -2, api.ErrProof},
	} {
		turns := slices.Clone(x.turns)
		fails(t, "P1.7: check of a turning", round.CheckTurn(h, 0, []int{1, 6, 9}, api.Turning{Turns: turns, Length: x.length}), x.e)
		if !slices.Equal(turns, x.turns) {
			t.Error("R6: CheckTurn changes the turns:", turns)
		}
	}
	fails(t, "P1.7: the stand at which it begins", round.CheckTurn(h, 6, []int{6}, api.Turning{}), api.OK)
	fails(t, "P1.7: past no stands", round.CheckTurn(h, 4, nil, api.Turning{}), api.OK)
	fails(t, "P1.7: past no stands, further than needed", round.CheckTurn(h, 4, nil, api.Turning{Turns: []int{2}, Length: 2}), api.OK)
	fails(t, "P1.7: past no stands, with a wrong length", round.CheckTurn(h, 4, nil, api.Turning{Length: 1}), api.ErrProof)
}

func TestAcceptedTurnings(t *testing.T) {
	h := api.House{Columns: 6, Rings: 1}
	for set := range 1 << 6 {
		stands := listOf(set)
		least := shortest(6, 2, set)
		for a := -6; a <= 6; a++ {
			for b := -6; b <= 6; b++ {
				x := api.Turning{Turns: []int{a, b}, Length: max(a, -a) + max(b, -b)}
				seen := 1 << 2
				at := 2
				for _, turn := range x.Turns {
					for turn != 0 {
						step := 1
						if turn < 0 {
							step = -1
						}
						at, turn = (at+step+6)%6, turn-step
						seen |= 1 << at
					}
				}
				want := api.OK
				if a == 0 || b == 0 || set&^seen != 0 {
					want = api.ErrProof
				}
				e := round.CheckTurn(h, 2, stands, x)
				if e != want || e == api.OK && x.Length < least {
					t.Fatalf("P1.13: past %v: %v is accepted with %d, want %d", stands, x, e, want)
				}
			}
		}
	}
}
