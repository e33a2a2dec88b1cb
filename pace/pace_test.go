package pace

import (
	"math/rand"
	"testing"

	"paternoster/api"
)

func made(t *testing.T, n int) *Pace {
	p, e := New(n)
	if e != api.OK || p.Granted() != n || p.Open() != n || p.Kept() != 0 || p.Most() != n || p.Due() != 0 {
		t.Fatal(n, int(e))
	}
	return p
}

// P8.1
func TestGotUse(t *testing.T) {
	made(t, 0)
	made(t, api.MaxWindow)
	for _, n := range []int{-1, api.MaxWindow + 1} {
		if p, e := New(n); p != nil || e != api.ErrRange {
			t.Error(n)
		}
	}
	p := made(t, 10)
	for i, c := range []struct{ got, want api.Errno }{
		{p.Got(-1), api.ErrArg}, {p.Got(11), api.ErrFull}, {p.Got(1<<63 - 1), api.ErrFull}, {p.Use(1), api.ErrRange}, {p.Use(-1), api.ErrArg}, {p.Use(0), api.OK},
		{p.Got(0), api.OK}, {p.Got(6), api.OK}, {p.Got(5), api.ErrFull}, {p.Use(7), api.ErrRange}, {p.Use(1<<63 - 1), api.ErrRange}, {p.Use(4), api.OK}, {p.Use(3), api.ErrRange},
		{p.Got(4), api.OK}, {p.Got(1), api.ErrFull},
	} {
		if c.got != c.want {
			t.Error(i, int(c.got))
		}
	}
	if p.Kept() != 6 || p.Open() != 6 || p.Granted() != 10 {
		t.Error(p.Kept(), p.Open())
	}
	var none *Pace
	if none.Got(-1) != api.ErrNil || none.Use(-1) != api.ErrNil {
		t.Error("nil")
	}
}

// P8.2
func TestDue(t *testing.T) {
	p := made(t, 10)
	p.Got(6)
	p.Use(4)
	if p.Due() != 0 || p.Grant() != 0 || p.Granted() != 10 {
		t.Error("below half")
	}
	p.Use(1)
	if p.Due() != 5 || p.Grant() != 5 || p.Granted() != 15 || p.Due() != 0 || p.Grant() != 0 {
		t.Error("half")
	}
	odd := made(t, 5)
	odd.Got(3)
	odd.Use(2)
	if odd.Due() != 0 {
		t.Error("the greater half")
	}
	odd.Use(1)
	if odd.Due() != 3 {
		t.Error(odd.Due())
	}
	nought := made(t, 0)
	if nought.Due() != 0 || nought.Got(1) != api.ErrFull || nought.Got(0) != api.OK {
		t.Error("nothing")
	}
}

// P8.2
func TestResize(t *testing.T) {
	p := made(t, 10)
	if p.Resize(-1) != api.ErrRange || p.Resize(api.MaxWindow+1) != api.ErrRange || p.Granted() != 10 {
		t.Error("wrong ones")
	}
	p.Got(10)
	p.Use(10)
	if p.Resize(0) != api.OK || p.Granted() != 0 || p.Open() != -10 || p.Due() != 10 || p.Most() != 10 {
		t.Error(p.Granted(), p.Open(), p.Due())
	}
	if p.Got(0) != api.OK || p.Got(1) != api.ErrFull {
		t.Error("less was granted than was got")
	}
	if p.Resize(30) != api.OK || p.Granted() != 30 || p.Most() != 30 || p.Due() != 0 || p.Got(20) != api.OK || p.Got(1) != api.ErrFull {
		t.Error(p.Granted(), p.Due())
	}
	if (*Pace)(nil).Resize(-1) != api.ErrNil {
		t.Error("nil")
	}
}

// P8.3
func TestNil(t *testing.T) {
	var p *Pace
	if p.Due() != 0 || p.Grant() != 0 || p.Open() != 0 || p.Kept() != 0 || p.Granted() != 0 || p.Most() != 0 {
		t.Error("nil")
	}
}

// P8.3, P8.4, P8.5
func TestBounded(t *testing.T) {
	r := rand.New(rand.NewSource(1))
	for range 300 {
		capacity := r.Intn(30)
		p := made(t, capacity)
		most, granted, got, used := capacity, capacity, 0, 0
		for range 60 {
			n := r.Intn(20)
			switch r.Intn(5) {
			case 0, 1:
				if p.Got(n) == api.OK {
					got += n
				}
			case 2:
				if p.Use(n) == api.OK {
					used += n
				}
			case 3:
				granted += p.Grant()
				if 2*(p.Granted()-got) < capacity && got == used {
					t.Fatal("less than half")
				}
			case 4:
				p.Resize(n)
				granted += n - capacity
				capacity = n
				most = max(most, n)
			}
			if p.Open() > capacity || p.Kept() > most || p.Open() != granted-used || p.Kept() != got-used || p.Granted() != granted || p.Most() != most {
				t.Fatal(p.Open(), p.Kept())
			}
		}
		p.Use(got - used)
		p.Grant()
		if capacity > 0 && p.Got((capacity+1)/2) != api.OK {
			t.Fatal("half of the capacity")
		}
	}
}
