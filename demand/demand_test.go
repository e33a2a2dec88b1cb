package demand

import (
	"math/rand"
	"testing"

	"paternoster/api"
)

const huge = 1<<63 - 1

// P6.1
func TestNewAdd(t *testing.T) {
	for _, n := range []int{0, -1, api.MaxWindow + 1, huge, -huge} {
		if d, e := New(n); d != nil || e != api.ErrRange {
			t.Error(n)
		}
	}
	if d, e := New(1); d == nil || e != api.OK {
		t.Error("the least limit")
	}
	d, e := New(10)
	if e != api.OK || d.Left() != 0 || d.Endless() {
		t.Fatal("new")
	}
	for i, c := range []struct {
		n, more int
		e       api.Errno
		left    int
	}{{7, 7, api.OK, 7}, {0, 0, api.ErrArg, 7}, {-1, 0, api.ErrArg, 7}, {7, 3, api.OK, 10}, {1, 0, api.OK, 10}, {huge, 0, api.OK, 10}} {
		if more, e := d.Add(c.n); more != c.more || e != c.e || d.Left() != c.left {
			t.Error(i, more, int(e), d.Left())
		}
	}
	if !d.Endless() {
		t.Error("endless")
	}
	big, _ := New(api.MaxWindow)
	if n, e := big.Add(huge); n != api.MaxWindow || e != api.OK || !big.Endless() {
		t.Error("the greatest limit", n)
	}
	if n, e := (*Demand)(nil).Add(0); n != 0 || e != api.ErrNil {
		t.Error("nil")
	}
}

// P6.2
func TestTake(t *testing.T) {
	d, _ := New(10)
	d.Add(10)
	if d.Take(-1) != api.ErrArg || d.Take(11) != api.ErrFull || d.Take(huge) != api.ErrFull || d.Left() != 10 {
		t.Error("wrong ones")
	}
	if d.Take(0) != api.OK || d.Take(4) != api.OK || d.Left() != 6 || d.Endless() {
		t.Error("take")
	}
	if d.Upto(-1) != 0 || d.Upto(-huge) != 0 || d.Upto(2) != 2 || d.Upto(huge) != 4 || d.Upto(1) != 0 || d.Left() != 0 || d.Take(1) != api.ErrFull {
		t.Error("upto", d.Left())
	}
	var none *Demand
	if none.Take(-1) != api.ErrNil || none.Upto(1) != 0 {
		t.Error("nil")
	}
}

// P6.3
func TestLooks(t *testing.T) {
	d, _ := New(3)
	d.Add(3)
	c := d.Copy()
	d.Take(1)
	if c.Left() != 3 || !c.Endless() || d.Left() != 2 || d.Endless() {
		t.Error("copy")
	}
	if n, _ := d.Copy().Add(9); n != 1 {
		t.Error("a copy's limit")
	}
	var none *Demand
	if none.Left() != 0 || none.Endless() || none.Copy() != nil {
		t.Error("nil")
	}
}

// P6.4
func TestNever(t *testing.T) {
	r := rand.New(rand.NewSource(1))
	for range 200 {
		d, _ := New(1 + r.Intn(20))
		added, taken := 0, 0
		for range 50 {
			n := r.Intn(12) - 2
			switch r.Intn(3) {
			case 0:
				k, _ := d.Add(n)
				added += k
			case 1:
				if d.Take(n) == api.OK {
					taken += n
				}
			case 2:
				taken += d.Upto(n)
			}
			if taken > added || d.Left() != added-taken {
				t.Fatal(added, taken, d.Left())
			}
		}
	}
}
