package share_test

import (
	"math"
	"slices"
	"strings"
	"testing"

	"potence/api"
	"potence/share"
)

// owed returns what is owed to some, one after the other.
func owed(birds ...int) []api.Owed {
	var l []api.Owed
	for i, n := range birds {
		l = append(l, api.Owed{Who: string(rune('a' + i)), Birds: n})
	}
	return l
}

func TestPay(t *testing.T) {
	for _, x := range []struct {
		birds int
		l     []api.Owed
		want  []int
		left  int
	}{
		{6, []api.Owed{{Who: "lord", Birds: 2}, {Who: "parson", Birds: 3}, {Who: "widow", Birds: 2}}, []int{2, 3, 1}, 0},
		{0, nil, nil, 0}, {500, []api.Owed{}, nil, 500}, {0, owed(3, 0, 1), []int{0, 0, 0}, 0},
		{9, owed(2, 3), []int{2, 3}, 4}, {5, owed(2, 3), []int{2, 3}, 0}, {5, owed(6, 3), []int{5, 0}, 0}, {5, owed(0, 5, 0), []int{0, 5, 0}, 0},
		{500, owed(500, 500), []int{500, 0}, 0}, {500, owed(slices.Repeat([]int{24}, 20)...), slices.Repeat([]int{24}, 20), 20},
		{3, []api.Owed{{Who: "lord", Birds: 2}, {Who: "lord", Birds: 2}, {Who: strings.Repeat("\xff", 24), Birds: 1}}, []int{2, 1, 0}, 0},
	} {
		paid, left, e := share.Pay(x.birds, x.l)
		same(t, "P7.10: Pay", paid, e, x.want...)
		is(t, "P7.10: what is left", left, e, x.left)
	}
}

func TestErrorsOfPay(t *testing.T) {
	many := owed(make([]int, 21)...)
	for _, x := range []struct {
		what  string
		birds int
		l     []api.Owed
		e     api.Errno
	}{
		{"less than no birds", -1, nil, api.ErrArg}, {"501 birds", 501, nil, api.ErrArg}, {"no number", math.MinInt, nil, api.ErrArg}, {"no number", math.MaxInt, owed(1), api.ErrArg},
		{"21 dues", 5, many, api.ErrLimit}, {"21 dues that are none", 5, make([]api.Owed, 21), api.ErrLimit}, {"21 dues, and no birds", -1, many, api.ErrArg},
		{"20 dues that are none", 5, make([]api.Owed, 20), api.ErrArg},
		{"nobody", 5, []api.Owed{{Who: "", Birds: 1}}, api.ErrArg}, {"nobody, the last one", 5, append(owed(9, 9), api.Owed{}), api.ErrArg},
		{"a long name", 5, []api.Owed{{Who: strings.Repeat("a", 25), Birds: 1}}, api.ErrArg}, {"a name of 13 letters and 26 bytes", 5, []api.Owed{{Who: strings.Repeat("é", 13)}}, api.ErrArg},
		{"less than nothing", 5, owed(1, -1), api.ErrArg}, {"501 birds for one", 5, owed(501), api.ErrArg}, {"no number for one", 5, owed(1, 2, math.MaxInt), api.ErrArg}, {"no number for one", 5, owed(math.MinInt), api.ErrArg},
	} {
		paid, left, e := share.Pay(x.birds, x.l)
		if e != x.e || len(paid) != 0 || left != 0 {
			t.Errorf("P7.10: %s: %v, %d left, error %d, want %d", x.what, paid, left, e, x.e)
		}
	}
}

func TestPayGivesOut(t *testing.T) {
	d := dice(13)
	for range 2000 {
		birds, dues := d.roll(40), make([]int, d.roll(21))
		for i := range dues {
			dues[i] = d.roll(1 + d.roll(12))
		}
		l := owed(dues...)
		paid, left, e := share.Pay(birds, l)
		if e != api.OK || len(paid) != len(l) || !slices.Equal(l, owed(dues...)) {
			t.Fatalf("P7.10: Pay %d of %v: %v, error %d", birds, l, paid, e)
		}
		all, sum, ahead := 0, 0, birds
		for i, n := range paid {
			if n != min(dues[i], ahead) {
				t.Fatalf("P7.10: Pay %d of %v: %v", birds, l, paid)
			}
			ahead -= n
			sum += n
			all += dues[i]
		}
		if sum+left != birds || left > 0 && sum != all || sum < all && left != 0 {
			t.Fatalf("P7.17: Pay %d of %v: %v, %d left", birds, l, paid, left)
		}
	}
}
