package conn

import (
	"strings"
	"testing"

	"paternoster/api"
)

// P26.6: what a step tells, in order.
func TestStepOrder(t *testing.T) {
	c := conf()
	c.Every, c.Wait, c.Window = 1, 1, 512
	x := made(t, 0, c)
	x.Step()
	feed(t, x, fAck, fSettings(api.Param{ID: 1, Value: 4096}), fOpen(2, api.KBytes, leaf), fOpen(4, api.KItems, leaf))
	feed(t, x, fData(2, strings.Repeat("x", 256), false))
	x.Read(2, 300)
	x.Open(api.KBytes, 0, leaf)
	x.Ask(4, 2)
	x.Offer(1, "abc")
	x.Offer(2, "de")
	x.Finish(2)
	x.Tick()
	ping := api.Frame{Type: api.FPing, Data: "\x00\x00\x00\x00\x00\x00\x00\x01"}
	tells(t, x, ping, fAck, fOpen(1, api.KBytes, leaf), fWindow(0, 256), fWindow(2, 256), fRequest(4, 2), fData(1, "abc", false), fData(2, "de", true))
	moved(t, x, api.Move{What: api.MSent, Stream: 1, N: 3, S: "abc"}, api.Move{What: api.MSent, Stream: 2, N: 2, S: "de", End: true})
	if n, _ := x.Credit().Spent(0); n != 5 {
		t.Error("spent", n)
	}
	if n, _ := x.Credit().Spent(1); n != 3 || x.pick.Left(1) != 15 {
		t.Error("spent", n, x.pick.Left(1))
	}
}

// P26.6: no grants of a stream whose other side has ended.
func TestNoGrants(t *testing.T) {
	x := opened(t)
	feed(t, x, fData(2, strings.Repeat("x", 64), true))
	x.Read(2, 64)
	x.Ask(4, 1)
	feed(t, x, fItem(4, "", true))
	tells(t, x)
}

// P26.6: four goes, by rounds, of what each weighs.
func TestBurst(t *testing.T) {
	x := settled(t, 0, conf())
	x.Open(api.KItems, 0, api.Dep{Weight: 2})
	x.Open(api.KItems, 0, api.Dep{Weight: 1})
	x.Step()
	feed(t, x, fRequest(1, 9), fRequest(3, 9))
	for range 6 {
		x.Offer(1, "a")
		x.Offer(3, "b")
	}
	a, b := fItem(1, "a", false), fItem(3, "b", false)
	tells(t, x, a, a, b, a)
	tells(t, x, a, b, a, a)
	tells(t, x, b, b, b, b)
	tells(t, x)
	// children behind their parents.
	y := settled(t, 0, conf())
	y.Open(api.KItems, 0, leaf)
	y.Open(api.KItems, 0, leaf)
	y.Move(1, api.Dep{On: 3, Weight: 16})
	y.Finish(1)
	y.Finish(3)
	y.Step()
	moved(t, y, api.Move{What: api.MSent, Stream: 3, End: true}, api.Move{What: api.MSent, Stream: 1, End: true})
}

// P26.6: as much as credit says; of a stream below 0 nothing.
func TestCreditSteps(t *testing.T) {
	x := settled(t, 0, conf())
	x.Open(api.KBytes, 0, leaf)
	x.Offer(1, strings.Repeat("x", 600))
	x.Finish(1)
	tells(t, x, fOpen(1, api.KBytes, leaf), fData(1, strings.Repeat("x", 64), false))
	tells(t, x)
	feed(t, x, fWindow(1, 1000))
	tells(t, x, fData(1, strings.Repeat("x", 256), false), fData(1, strings.Repeat("x", 192), false))
	feed(t, x, fWindow(0, 1000))
	tells(t, x, fData(1, strings.Repeat("x", 88), true))
	if x.Stream(1).MaySend() || x.Status().Waiting != 0 {
		t.Error("all is sent")
	}
	feed(t, x, fData(1, "", true))
	moved(t, x, api.Move{What: api.MCame, Stream: 1, End: true}, api.Move{What: api.MDone, Stream: 1, End: true})
}

// P26.6: a stream that is gone is tidied, behind what is sent.
func TestStepTidies(t *testing.T) {
	x := opened(t)
	feed(t, x, fItem(4, "", true))
	x.Finish(4)
	tells(t, x, fItem(4, "", true))
	moved(t, x, api.Move{What: api.MSent, Stream: 4, End: true}, api.Move{What: api.MDone, Stream: 4, End: true})
	if x.Stream(4) != nil || x.pick.Len() != 0 || x.tree.Has(4) {
		t.Error("taken out")
	}
}

// P26.6: it is closed when no stream is left.
func TestDrained(t *testing.T) {
	x := opened(t)
	for _, id := range []int{1, 2, 3} {
		x.Reset(id, 0)
	}
	x.Goaway()
	x.Step()
	if x.Status().Closed {
		t.Error("a stream is left")
	}
	x.Reset(4, 8)
	tells(t, x, fReset(4, 8))
	closedBy(t, x, api.NoError)
	if x.Step() != "" {
		t.Error("nothing more")
	}
	y := settled(t, 1, conf())
	feed(t, y, fGoaway(0, 0))
	if y.Status().Closed {
		t.Error("at the step")
	}
	y.Step()
	closedBy(t, y, api.NoError)
}

// P26.6: a stall.
func TestStalls(t *testing.T) {
	c := conf()
	c.Stall = 3
	x := settled(t, 0, c)
	x.Open(api.KBytes, 0, leaf)
	x.Offer(1, strings.Repeat("x", 300))
	x.Step()
	x.Step()
	x.Tick()
	x.Tick()
	feed(t, x, fWindow(0, 1))
	x.Step()
	x.Tick()
	x.Tick()
	if x.Step() != "" || x.Status().Closed {
		t.Error("some credit came")
	}
	x.Tick()
	tells(t, x, fGoaway(0, api.Stalled))
	moved(t, x, api.Move{What: api.MDone, Stream: 1, N: api.Stalled})
	closedBy(t, x, api.Stalled)
	// whoever has nothing to send, or may send it, is not stuck.
	z := settled(t, 0, c)
	z.Open(api.KBytes, 0, leaf)
	for range 40 {
		z.Tick()
		z.Offer(1, "x")
		z.Step()
	}
	if z.Status().Closed || z.Status().Waiting != 0 {
		t.Error("not stuck", z.Status())
	}
	// what is not wanted is stuck, too; credit of other streams counts.
	y := settled(t, 0, c)
	y.Open(api.KItems, 0, leaf)
	y.Open(api.KBytes, 0, leaf)
	y.Offer(1, "x")
	for range 9 {
		y.Step()
		y.Tick()
		y.Tick()
		feed(t, y, fWindow(3, 1))
	}
	if y.Status().Closed {
		t.Error("credit")
	}
	for range 9 {
		y.Tick()
		y.Step()
		if y.Status().Closed {
			break
		}
		feed(t, y, api.Frame{Type: api.FPong, Data: "12345678"})
	}
	closedBy(t, y, api.Stalled)
}
