package window

import (
	"math/rand"
	"testing"

	"paternoster/api"
)

const most = api.MaxWindow

func made(t *testing.T, n int) *Window {
	w, e := New(n)
	if e != api.OK || w.Size() != n {
		t.Fatal(n, int(e))
	}
	return w
}

// P5.1
func TestNew(t *testing.T) {
	made(t, 0)
	made(t, most)
	for _, n := range []int{-1, most + 1, -1 << 63, 1<<63 - 1} {
		if w, e := New(n); w != nil || e != api.ErrRange {
			t.Error(n)
		}
	}
}

// P5.2
func TestGrowSpend(t *testing.T) {
	w := made(t, 10)
	for i, c := range []struct {
		e, want api.Errno
		size    int
	}{
		{w.Spend(-1), api.ErrArg, 10}, {w.Spend(-1 << 63), api.ErrArg, 10}, {w.Spend(11), api.ErrFull, 10}, {w.Spend(1<<63 - 1), api.ErrFull, 10},
		{w.Grow(0), api.ErrArg, 10}, {w.Grow(-1), api.ErrArg, 10}, {w.Grow(most + 1), api.ErrArg, 10}, {w.Grow(most - 9), api.ErrOver, 10},
	} {
		if c.e != c.want || w.Size() != c.size {
			t.Error(i, int(c.e), w.Size())
		}
	}
	if w.Spend(0) != api.OK || w.Size() != 10 || w.Spend(10) != api.OK || w.Size() != 0 || w.Spend(1) != api.ErrFull || w.Grow(most) != api.OK || w.Size() != most {
		t.Error("goes", w.Size())
	}
	if w.Grow(1) != api.ErrOver || w.Size() != most {
		t.Error("over")
	}
	low := made(t, 0)
	low.Resize(5, 0)
	if low.Spend(0) != api.OK || low.Spend(1) != api.ErrFull || low.Grow(6) != api.OK || low.Size() != 1 {
		t.Error("below 0")
	}
	var none *Window
	if none.Grow(0) != api.ErrNil || none.Spend(-1) != api.ErrNil {
		t.Error("nil")
	}
}

// P5.3
func TestResize(t *testing.T) {
	w := made(t, 10)
	w.Spend(8)
	if w.Resize(10, 4) != api.OK || w.Size() != -4 || w.Free() != 0 {
		t.Error(w.Size())
	}
	for _, c := range [][2]int{{-1, 0}, {0, -1}, {most + 1, 0}, {0, most + 1}} {
		if w.Resize(c[0], c[1]) != api.ErrArg || w.Size() != -4 {
			t.Error(c)
		}
	}
	if w.Resize(most, 0) != api.ErrOver || w.Size() != -4 || w.Resize(most-4, 0) != api.OK || w.Size() != -most {
		t.Error("least", w.Size())
	}
	v := made(t, 1)
	if v.Resize(0, most) != api.ErrOver || v.Resize(1, most) != api.OK || v.Size() != most {
		t.Error("greatest", v.Size())
	}
	if (*Window)(nil).Resize(-1, 0) != api.ErrNil {
		t.Error("nil")
	}
}

// P5.4
func TestLooks(t *testing.T) {
	w := made(t, 7)
	c := w.Copy()
	w.Spend(3)
	if w.Size() != 4 || w.Free() != 4 || c.Size() != 7 {
		t.Error("copy")
	}
	var none *Window
	if none.Size() != 0 || none.Free() != 0 || none.Copy() != nil {
		t.Error("nil")
	}
}

// P5.5
func TestWithin(t *testing.T) {
	r := rand.New(rand.NewSource(1))
	for range 200 {
		begin := r.Intn(100)
		w := made(t, begin)
		given, spent := begin, 0
		for range 60 {
			switch n := r.Intn(60); r.Intn(4) {
			case 0:
				if n > 30 {
					n = most - n
				}
				if w.Grow(n) == api.OK {
					given += n
				}
			case 1, 2:
				if w.Spend(n) == api.OK {
					spent += n
					if n > 0 && spent > given {
						t.Fatal("spent", spent, "of", given)
					}
				}
			case 3:
				to := r.Intn(60)
				if to > 55 {
					to = most - to
				}
				if w.Resize(n, to) == api.OK {
					given += to - n
				}
			}
			if w.Size() != given-spent || w.Size() > most || w.Size() < -most {
				t.Fatal(w.Size())
			}
		}
	}
}
