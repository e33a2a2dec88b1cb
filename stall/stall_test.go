package stall

import (
	"math/rand"
	"testing"

	"paternoster/api"
)

func made(t *testing.T, n int) *Stall {
	s, e := New(n)
	if e != api.OK || s.Fired() {
		t.Fatal(n, int(e))
	}
	return s
}

func since(t *testing.T, s *Stall, want int, is bool) {
	t.Helper()
	if n, ok := s.Since(); n != want || ok != is {
		t.Error("since", n, ok)
	}
}

// P19.1
func TestNew(t *testing.T) {
	since(t, made(t, 0), 0, false)
	since(t, made(t, api.MaxTicks), 0, false)
	for _, n := range []int{-1, api.MaxTicks + 1} {
		if s, e := New(n); s != nil || e != api.ErrRange {
			t.Error(n)
		}
	}
}

// P19.2
func TestCredit(t *testing.T) {
	s := made(t, 3)
	s.Credit(2)
	since(t, s, 0, false)
	s.Step(2, true)
	s.Credit(4)
	since(t, s, 4, true)
	s.Credit(1)
	since(t, s, 4, true)
	if s.Step(6, true) || !s.Step(7, true) {
		t.Error("since the credit")
	}
	s.Credit(99)
	since(t, s, 4, true)
	if !s.Step(99, true) {
		t.Error("fired")
	}
	var none *Stall
	none.Credit(1)
}

// P19.3
func TestStep(t *testing.T) {
	s := made(t, 3)
	if s.Step(1, true) || s.Step(3, true) || !s.Step(4, true) || !s.Step(4, false) || !s.Step(0, true) {
		t.Error("fires")
	}
	u := made(t, 3)
	if u.Step(1, true) || u.Step(3, false) || u.Step(4, true) || u.Step(6, true) || !u.Step(100, true) {
		t.Error("not stuck in between")
	}
	v := made(t, 3)
	v.Step(-5, true)
	since(t, v, 0, true)
	if v.Step(2, true) || v.Step(1, true) || !v.Step(3, true) {
		t.Error("a tick below an earlier one")
	}
	w := made(t, 3)
	w.Credit(10)
	w.Step(5, true)
	since(t, w, 10, true)
	off := made(t, 0)
	if off.Step(1, true) || off.Step(1<<62, true) || off.Fired() {
		t.Error("off")
	}
	since(t, off, 0, false)
	if (*Stall)(nil).Step(1, true) {
		t.Error("nil")
	}
}

// P19.4
func TestLooks(t *testing.T) {
	s := made(t, 2)
	s.Step(5, true)
	since(t, s, 5, true)
	s.Step(6, false)
	since(t, s, 0, false)
	s.Step(7, true)
	if s.Fired() || !s.Step(9, true) || !s.Fired() {
		t.Error("fired")
	}
	s.Step(12, false)
	since(t, s, 7, true)
	var none *Stall
	since(t, none, 0, false)
	if none.Fired() {
		t.Error("nil")
	}
}

// P19.5
func TestOnlyThen(t *testing.T) {
	r := rand.New(rand.NewSource(1))
	for range 500 {
		limit := 1 + r.Intn(5)
		s := made(t, limit)
		stuck, from := false, 0
		for now := range 60 {
			if r.Intn(5) == 0 {
				s.Credit(now)
				from = now
			}
			if r.Intn(4) == 0 {
				continue
			}
			blocked := r.Intn(6) > 0
			if blocked && !stuck {
				from = now
			}
			stuck = blocked
			if fired := s.Step(now, blocked); fired != (stuck && now-from >= limit) {
				t.Fatal(now, from, limit, fired)
			} else if fired {
				break
			}
		}
	}
}
