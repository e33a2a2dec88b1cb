package drain

import (
	"math/rand"
	"testing"

	"paternoster/api"
)

const big = api.MaxID + 1

func over(t *testing.T, d *Drain, want bool, code int) {
	t.Helper()
	if is, c := d.Over(); is != want || c != code {
		t.Error("over", is, c)
	}
}

// P20.1
func TestSend(t *testing.T) {
	d := New()
	if d.Send(-1) != api.ErrArg || d.Send(big) != api.ErrArg || d.Send(api.MaxID) != api.OK || d.Send(3) != api.ErrState || d.Send(-1) != api.ErrArg {
		t.Error("send")
	}
	over(t, d, false, 0)
	d.Fail(5)
	if d.Send(-1) != api.ErrClosed || (*Drain)(nil).Send(-1) != api.ErrNil {
		t.Error("closed, nil")
	}
}

// P20.1
func TestGot(t *testing.T) {
	d := New()
	for i, c := range []struct {
		last, code int
		want       api.Errno
	}{{-1, 0, api.ErrArg}, {big, 0, api.ErrArg}, {0, -1, api.ErrArg}, {0, big, api.ErrArg}, {9, 0, api.OK}, {9, 0, api.ErrState}, {11, 0, api.ErrState}, {7, 0, api.OK}, {9, 0, api.ErrState}} {
		if e := d.Got(c.last, c.code); e != c.want {
			t.Error(i, int(e))
		}
	}
	over(t, d, false, 0)
	if d.Refused(7) || !d.Refused(9) {
		t.Error("the lesser last")
	}
	if d.Got(99, 7) != api.OK || d.Got(-1, 0) != api.ErrClosed || (*Drain)(nil).Got(-1, 0) != api.ErrNil {
		t.Error("by a code")
	}
	over(t, d, true, 7)
	e := New()
	if e.Got(3, 8) != api.OK || e.Refused(5) {
		t.Error("by a code at once")
	}
	over(t, e, true, 8)
}

// P20.1
func TestFail(t *testing.T) {
	d := New()
	if d.Fail(0) != api.ErrArg || d.Fail(-1) != api.ErrArg || d.Fail(big) != api.ErrArg || d.Fail(api.MaxID) != api.OK || d.Fail(0) != api.ErrClosed || (*Drain)(nil).Fail(0) != api.ErrNil {
		t.Error("fail")
	}
	over(t, d, true, api.MaxID)
}

// P20.2
func TestMay(t *testing.T) {
	d := New()
	if !d.MayOpen() || !d.Takes(9) || d.Refused(9) {
		t.Error("new")
	}
	d.Send(4)
	if d.MayOpen() || !d.Takes(4) || d.Takes(6) || !d.Takes(-1) || d.Refused(9) {
		t.Error("sent")
	}
	g := New()
	g.Got(4, 0)
	if g.MayOpen() || !g.Takes(6) || g.Refused(4) || !g.Refused(5) {
		t.Error("got")
	}
	g.Fail(1)
	d.Fail(1)
	if g.MayOpen() || g.Takes(6) || d.Takes(4) {
		t.Error("over")
	}
	e := New()
	e.Fail(2)
	if e.MayOpen() || e.Takes(1) {
		t.Error("over")
	}
}

// P20.3
func TestStep(t *testing.T) {
	d := New()
	if d.Step(0) || d.Step(-1) {
		t.Error("no goaway")
	}
	d.Send(4)
	if d.Step(1) || !d.Step(0) || !d.Step(3) {
		t.Error("sent")
	}
	over(t, d, true, api.NoError)
	g := New()
	g.Got(4, 0)
	if g.Step(1) || !g.Step(-7) {
		t.Error("got")
	}
	f := New()
	f.Fail(6)
	if !f.Step(5) {
		t.Error("failed")
	}
	over(t, f, true, 6)
}

// P20.4
func TestLooks(t *testing.T) {
	d := New()
	over(t, d, false, 0)
	if n, is := d.Sent(); n != 0 || is {
		t.Error("none")
	}
	d.Send(6)
	if n, is := d.Sent(); n != 6 || !is {
		t.Error("sent")
	}
	var none *Drain
	over(t, none, true, 0)
	if n, is := none.Sent(); n != 0 || is || none.MayOpen() || none.Takes(1) || none.Refused(1) || !none.Step(5) {
		t.Error("nil")
	}
}

// P20.5
func TestOnce(t *testing.T) {
	r := rand.New(rand.NewSource(1))
	for range 300 {
		d := New()
		was, code := false, 0
		for range 30 {
			switch r.Intn(4) {
			case 0:
				d.Send(r.Intn(9))
			case 1:
				d.Got(r.Intn(9), r.Intn(12)/11)
			case 2:
				if r.Intn(9) == 0 {
					d.Fail(r.Intn(4))
				}
			case 3:
				d.Step(r.Intn(5))
			}
			is, c := d.Over()
			if was && (!is || c != code) || is && d.MayOpen() {
				t.Fatal("not once")
			}
			was, code = is, c
		}
	}
}
