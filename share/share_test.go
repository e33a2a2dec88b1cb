package share

import (
	"math/rand"
	"slices"
	"testing"

	"paternoster/api"
)

const big = 1<<31 - 1

// P38.1, P38.2
func TestShare(t *testing.T) {
	for i, c := range []struct {
		whole int
		l     []api.Claim
		want  []int
		left  int
	}{
		{10, []api.Claim{{Want: 2, Weight: 1}, {Want: 9, Weight: 1}, {Want: 9, Weight: 1}}, []int{2, 4, 4}, 0},
		{10, nil, nil, 10},
		{0, []api.Claim{{Want: 2, Weight: 1}}, []int{0}, 0},
		{10, []api.Claim{{Want: 2, Weight: 1}, {Want: -5, Weight: 9}}, []int{2, 0}, 8},
		{2, []api.Claim{{Want: 9, Weight: 1}, {Want: 9, Weight: 1}, {Want: 9, Weight: 1}}, []int{1, 1, 0}, 0},
		{12, []api.Claim{{Want: 99, Weight: 1}, {Want: 99, Weight: 3}}, []int{3, 9}, 0},
		{13, []api.Claim{{Want: 99, Weight: 1}, {Want: 99, Weight: 3}}, []int{4, 9}, 0},
		{514, []api.Claim{{Want: 999, Weight: 900}, {Want: 999, Weight: -3}, {Want: 999, Weight: 0}}, []int{512, 1, 1}, 0},
		{big, []api.Claim{{Want: 1 << 62, Weight: 1 << 62}, {Want: 5, Weight: -1 << 62}}, []int{big - 5, 5}, 0},
		{7, []api.Claim{{Want: 1, Weight: 100}, {Want: 9, Weight: 1}, {Want: 9, Weight: 1}}, []int{1, 3, 3}, 0},
	} {
		l, e := Share(c.whole, c.l)
		if !slices.Equal(l, c.want) || e != api.OK || Left(c.whole, c.l) != c.left {
			t.Error(i, l, Left(c.whole, c.l))
		}
	}
	many := make([]api.Claim, 257)
	for _, whole := range []int{-1, big + 1} {
		if l, e := Share(whole, many); l != nil || e != api.ErrArg || Left(whole, nil) != 0 {
			t.Error(whole)
		}
	}
	if l, e := Share(5, many); l != nil || e != api.ErrBig || Left(5, many) != 0 {
		t.Error("257")
	}
	if l, e := Share(5, many[:256]); len(l) != 256 || e != api.OK || Left(5, many[:256]) != 5 {
		t.Error("256")
	}
}

// plain: what each gets, as the chapter says it.
func plain(whole int, l []api.Claim) []int {
	gets := make([]int, len(l))
	for {
		all := 0
		for i, c := range l {
			if gets[i] < c.Want {
				all += c.Weight
			}
		}
		if whole == 0 || all == 0 {
			return gets
		}
		begin, given := whole, 0
		for i, c := range l {
			if gets[i] < c.Want {
				k := min(begin*c.Weight/all, c.Want-gets[i])
				gets[i] += k
				given += k
			}
		}
		whole -= given
		for i := 0; i < len(l) && given == 0 && whole > 0; i++ {
			if gets[i] < l[i].Want {
				gets[i]++
				whole--
			}
		}
	}
}

// P38.1, P38.3, P38.4, P38.5
func TestFair(t *testing.T) {
	r := rand.New(rand.NewSource(1))
	for round := range 2000 {
		var l []api.Claim
		wants := 0
		for range r.Intn(9) {
			c := api.Claim{Want: r.Intn(40), Weight: 1 + r.Intn(9)}
			if round%3 == 0 {
				c = api.Claim{Want: 1000, Weight: 4}
			}
			wants += c.Want
			l = append(l, c)
		}
		whole := r.Intn(200)
		gets, _ := Share(whole, l)
		if !slices.Equal(gets, plain(whole, l)) {
			t.Fatal(whole, l, gets)
		}
		sum := 0
		for i, n := range gets {
			sum += n
			if n < 0 || n > l[i].Want {
				t.Fatal("more than is wanted")
			}
			for k, m := range gets {
				if n < l[i].Want && l[k].Weight <= l[i].Weight && n < m-1 {
					t.Fatal("not fair", whole, l, gets)
				}
				if round%3 == 0 && (n > m+1 || m > n+1) {
					t.Fatal("not alike", gets)
				}
			}
		}
		if sum != min(whole, wants) || Left(whole, l) != whole-sum {
			t.Fatal("not all", sum)
		}
	}
}
