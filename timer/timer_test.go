package timer

import (
	"math/rand"
	"slices"
	"testing"

	"paternoster/api"
)

func next(t *testing.T, w *Wheel, id, at int, is bool) {
	t.Helper()
	if a, b, ok := w.Next(); a != id || b != at || ok != is {
		t.Error("next", a, b, ok)
	}
}

func advance(t *testing.T, w *Wheel, now, clock int, want ...int) {
	t.Helper()
	if l := w.Advance(now); !slices.Equal(l, want) || w.Now() != clock {
		t.Error("advance", now, l, w.Now())
	}
}

// P39.1
func TestSet(t *testing.T) {
	w := New()
	w.Advance(5)
	for i, c := range []struct {
		id, at int
		e      api.Errno
	}{{1, 4, api.ErrRange}, {1, -1, api.ErrRange}, {1, 1<<40 + 1, api.ErrRange}, {1, 5, api.OK}, {-7, 1 << 40, api.OK}, {1, 9, api.OK}} {
		if e := w.Set(c.id, c.at); e != c.e {
			t.Error(i, int(e))
		}
	}
	if at, is := w.At(1); at != 9 || !is || w.Len() != 2 {
		t.Error("set anew", at)
	}
	if !w.Stop(1) || w.Stop(1) || w.Stop(2) {
		t.Error("stop")
	}
	if at, is := w.At(1); at != 0 || is {
		t.Error("stopped", at)
	}
	for i := range 1023 {
		if w.Set(i, 7) != api.OK {
			t.Error(i)
		}
	}
	if w.Set(2000, 7) != api.ErrLimit || w.Set(2000, 4) != api.ErrRange || w.Set(1000, 8) != api.OK || w.Len() != 1024 {
		t.Error("limit")
	}
	w.Stop(3)
	if w.Set(2000, 7) != api.OK {
		t.Error("room again")
	}
	var none *Wheel
	if none.Set(1, -1) != api.ErrNil || none.Stop(1) {
		t.Error("nil")
	}
	if at, is := none.At(1); at != 0 || is {
		t.Error("nil")
	}
}

// P39.2
func TestAdvance(t *testing.T) {
	w := New()
	next(t, w, 0, 0, false)
	w.Set(1, 9)
	w.Set(2, 4)
	next(t, w, 2, 4, true)
	advance(t, w, 5, 5, 2)
	next(t, w, 1, 9, true)
	w.Set(8, 6)
	w.Set(3, 6)
	w.Set(-4, 6)
	w.Set(5, 5)
	next(t, w, 5, 5, true)
	advance(t, w, 2, 5, 5)
	next(t, w, -4, 6, true)
	w.Set(6, 5)
	advance(t, w, 1<<40+1, 5, 6)
	advance(t, w, -1, 5)
	advance(t, w, 9, 9, -4, 3, 8, 1)
	w.Set(2, 1<<40)
	next(t, w, 2, 1<<40, true)
	advance(t, w, 1<<40, 1<<40, 2)
	advance(t, w, 1<<40, 1<<40)
	next(t, w, 0, 0, false)
	var none *Wheel
	next(t, none, 0, 0, false)
	advance(t, none, 5, 0)
}

// P39.3
func TestLooks(t *testing.T) {
	w := New()
	if w.Now() != 0 || w.Len() != 0 {
		t.Error("new")
	}
	w.Set(1, 3)
	w.Set(2, 3)
	if w.Len() != 2 {
		t.Error(w.Len())
	}
	w.Advance(3)
	if w.Now() != 3 || w.Len() != 0 || (*Wheel)(nil).Now() != 0 || (*Wheel)(nil).Len() != 0 {
		t.Error("looks")
	}
}

// P39.4, P39.5
func TestOnce(t *testing.T) {
	r := rand.New(rand.NewSource(1))
	for range 300 {
		w, steps := New(), New()
		at := map[int]int{}
		for range 40 {
			id, tick := r.Intn(20), w.Now()+r.Intn(30)
			first, when, is := w.Next()
			for id, tick := range at {
				if !is || tick < when || tick == when && id < first {
					t.Fatal("next", first, when, at)
				}
			}
			if is != (len(at) > 0) || is && at[first] != when {
				t.Fatal("next", first, when, at)
			}
			switch r.Intn(5) {
			case 0, 1, 2:
				if w.Set(id, tick) != steps.Set(id, tick) {
					t.Fatal("set")
				}
				at[id] = tick
			case 3:
				_, is := at[id]
				if w.Stop(id) != is || steps.Stop(id) != is {
					t.Fatal("stop")
				}
				delete(at, id)
			case 4:
				got := w.Advance(tick)
				var parts []int
				for now := steps.Now(); now <= tick; now++ {
					parts = append(parts, steps.Advance(now)...)
				}
				if !slices.Equal(got, parts) {
					t.Fatal("in steps", got, parts)
				}
				for i, id := range got {
					when, is := at[id]
					if !is || when > tick || i > 0 && (at[got[i-1]] > when || at[got[i-1]] == when && got[i-1] >= id) {
						t.Fatal("told", got)
					}
				}
				for _, id := range got {
					delete(at, id)
				}
				for _, when := range at {
					if when <= tick {
						t.Fatal("not told", when)
					}
				}
			}
		}
	}
}
