package pick

import (
	"math/rand"
	"slices"
	"testing"

	"paternoster/api"
)

func turn(id, weight int) api.Turn { return api.Turn{ID: id, Weight: weight, Ready: true} }

// goes: who is picked, n times, each go costing so much.
func goes(t *testing.T, p *Pick, n, cost int, l ...api.Turn) []int {
	var out []int
	for range n {
		id, ok := p.Next(l...)
		if !ok || p.Left(id) < 1 || p.Charge(id, cost) != api.OK {
			t.Fatal("next", id, ok)
		}
		out = append(out, id)
	}
	return out
}

// P15.1
func TestNext(t *testing.T) {
	p := New()
	if l := goes(t, p, 6, 1, turn(1, 2), turn(3, 1)); !slices.Equal(l, []int{1, 1, 3, 1, 1, 3}) {
		t.Error(l)
	}
	for _, l := range [][]api.Turn{nil, {{ID: 1, Weight: 5}}} {
		if id, ok := p.Next(l...); id != 0 || ok || p.Len() != 0 {
			t.Error(id, ok)
		}
	}
	if id, ok := (*Pick)(nil).Next(turn(1, 1)); id != 0 || ok {
		t.Error("nil")
	}
	// weights that may not be; 0 and numbers below it are numbers, too.
	q := New()
	q.Next(turn(0, -9), turn(-4, 900))
	if q.Left(0) != 1 || q.Left(-4) != 256 {
		t.Error(q.Left(0), q.Left(-4))
	}
	// the first of those that have something left, in the order that is handed in.
	if id, _ := q.Next(turn(-4, 1), turn(0, 1)); id != -4 {
		t.Error(id)
	}
	if id, _ := q.Next(api.Turn{ID: -4, Weight: 1}, turn(0, 1)); id != 0 {
		t.Error(id)
	}
	// the first Turn of a number counts.
	r := New()
	if id, ok := r.Next(api.Turn{ID: 1, Weight: 5}, turn(1, 5)); ok {
		t.Error("twice, not ready", id)
	}
	r.Next(turn(1, 5), turn(2, 3), turn(1, 200))
	if r.Left(1) != 5 || r.Left(2) != 3 {
		t.Error("twice", r.Left(1), r.Left(2))
	}
}

// P15.1
func TestRounds(t *testing.T) {
	p := New()
	p.Charge(1, 10)
	p.Charge(2, 1000)
	p.Charge(3, 7)
	if id, ok := p.Next(turn(2, 100), turn(1, 4)); id != 1 || !ok || p.Left(1) != 2 || p.Left(2) != -700 || p.Left(3) != -7 {
		t.Error(id, p.Left(1), p.Left(2), p.Left(3))
	}
	// a thousand rounds at once.
	far := New()
	far.Charge(1, 1024)
	far.Charge(2, 1020)
	far.Next(turn(1, 1), turn(2, 1))
	if far.Left(1) != -3 || far.Left(2) != 1 {
		t.Error(far.Left(1), far.Left(2))
	}
	// 0 behind a round is nothing that is left.
	z := New()
	z.Charge(1, 2)
	z.Charge(2, 1)
	z.Next(turn(1, 2), turn(2, 5))
	if z.Left(1) != 0 || z.Left(2) != 4 || z.Len() != 1 {
		t.Error(z.Left(1), z.Left(2), z.Len())
	}
}

// P15.2
func TestChargeForget(t *testing.T) {
	p := New()
	if p.Charge(1, 0) != api.ErrArg || p.Charge(1, -1) != api.ErrArg || p.Charge(1, 1025) != api.ErrArg || p.Left(1) != 0 || p.Len() != 0 {
		t.Error("wrong ones")
	}
	if p.Charge(1, 1000) != api.OK || p.Left(1) != -1000 || p.Charge(1, 1000) != api.OK || p.Left(1) != -1024 {
		t.Error(p.Left(1))
	}
	if p.Forget(2) || !p.Forget(1) || p.Forget(1) || p.Left(1) != 0 || p.Len() != 0 {
		t.Error("forget")
	}
	var none *Pick
	if none.Charge(1, 0) != api.ErrNil || none.Forget(1) {
		t.Error("nil")
	}
}

// P15.3
func TestLooks(t *testing.T) {
	p := New()
	p.Charge(5, 1)
	p.Charge(6, 1)
	if p.Len() != 2 || p.Left(5) != -1 || p.Left(7) != 0 {
		t.Error("looks")
	}
	p.Next(turn(5, 2))
	p.Charge(5, 1)
	if p.Len() != 1 {
		t.Error(p.Len())
	}
	for _, c := range [][2]int{{0, 1}, {-1, 1}, {-1 << 63, 1}, {1, 1}, {16, 1}, {17, 2}, {32, 2}, {256, 16}, {257, 17}, {1<<63 - 1, 1 << 59}} {
		if Cost(c[0]) != c[1] {
			t.Error(c, Cost(c[0]))
		}
	}
	var none *Pick
	if none.Left(1) != 0 || none.Len() != 0 {
		t.Error("nil")
	}
}

// P15.4
func TestFair(t *testing.T) {
	r := rand.New(rand.NewSource(1))
	for range 50 {
		var l []api.Turn
		all := 0
		for i := range 1 + r.Intn(6) {
			l = append(l, turn(i, 1+r.Intn(30)))
			all += l[i].Weight
		}
		p := New()
		for range 3 {
			n := map[int]int{}
			for _, id := range goes(t, p, all, 1, l...) {
				n[id]++
			}
			for _, x := range l {
				if n[x.ID] != x.Weight {
					t.Fatal(l, n)
				}
			}
		}
	}
}

// P15.5
func TestNoneWaits(t *testing.T) {
	r := rand.New(rand.NewSource(2))
	for range 50 {
		p := New()
		var l []api.Turn
		for i := range 2 + r.Intn(5) {
			l = append(l, turn(i, 1+r.Intn(256)))
			if r.Intn(2) == 0 {
				p.Charge(i, 1+r.Intn(1024))
			}
		}
		last := l[len(l)-1].ID
		// at most so many rounds till it has something left, and so many goes in all of these.
		bound := 0
		for _, x := range l {
			bound += 2*1024 + 1025*x.Weight
		}
		found := false
		for range bound {
			id, _ := p.Next(l...)
			if id == last {
				found = true
				break
			}
			p.Charge(id, 1+r.Intn(16))
		}
		if !found {
			t.Fatal("waits for ever")
		}
	}
}
