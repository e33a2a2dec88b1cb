package conn

import (
	"slices"
	"strings"
	"testing"

	"paternoster/api"
)

// opened: an endpoint of side 0 with streams 1 (bytes) and 3 (items) of its own, 2 (bytes) and 4 (items) of the other side, all that waited sent.
func opened(t *testing.T) *Conn {
	t.Helper()
	x := settled(t, 0, conf())
	x.Open(api.KBytes, 0, leaf)
	x.Open(api.KItems, 0, leaf)
	feed(t, x, fOpen(2, api.KBytes, leaf), fOpen(4, api.KItems, leaf))
	x.Step()
	return x
}

const big = api.MaxWindow

// P26.5: what is wrong with the connection.
func TestFails(t *testing.T) {
	for i, c := range []struct {
		l    []api.Frame
		code int
	}{
		{[]api.Frame{fOpen(4, 1, leaf)}, api.Protocol},
		{[]api.Frame{fOpen(2, 1, leaf)}, api.Protocol},
		{[]api.Frame{fOpen(5, 1, leaf)}, api.Protocol},
		{[]api.Frame{fOpen(4, 1, api.Dep{On: 4, Weight: 1})}, api.Protocol},
		{[]api.Frame{fOpen(6, 1, api.Dep{On: 6, Weight: 1})}, api.Protocol},
		{[]api.Frame{fAck}, api.Protocol},
		{[]api.Frame{fWindow(0, 0)}, api.Protocol},
		{[]api.Frame{fWindow(0, big)}, api.FlowControl},
		{[]api.Frame{fWindow(1, big-64), fSettings(api.Param{ID: 1, Value: 65})}, api.FlowControl},
		{[]api.Frame{fData(5, "", false)}, api.Protocol},
		{[]api.Frame{fData(6, "", false)}, api.Protocol},
		{[]api.Frame{fItem(7, "", false)}, api.Protocol},
		{[]api.Frame{fReset(6, 0)}, api.Protocol},
		{[]api.Frame{fWindow(6, 0)}, api.Protocol},
		{[]api.Frame{fRequest(5, 0)}, api.Protocol},
		{[]api.Frame{fPriority(6, leaf)}, api.Protocol},
		{[]api.Frame{fPriority(2, api.Dep{On: 2, Weight: 1})}, api.Protocol},
		{[]api.Frame{fReset(2, 0), fPriority(2, api.Dep{On: 2, Weight: 1})}, api.Protocol},
	} {
		x := opened(t)
		feed(t, x, c.l...)
		last := api.Move{}
		if l := x.Moves(); len(l) > 0 {
			last = l[len(l)-1]
		}
		if last.What != api.MDone || last.N != c.code || last.End {
			t.Error(i, "moves", x.Moves())
		}
		closedBy(t, x, c.code)
		end := x.ids.Last()
		tells(t, x, fGoaway(end, c.code))
		moved(t, x)
		if x.Step() != "" || x.Step() != "" {
			t.Error(i, "once")
		}
	}
}

// P26.5: more bytes than the connection's window.
func TestVConn(t *testing.T) {
	c := conf()
	c.Window = 4096
	x := settled(t, 0, c)
	feed(t, x, fOpen(2, api.KBytes, leaf), fData(2, strings.Repeat("x", 256), false), fData(2, strings.Repeat("x", 256), false))
	if x.Recv().Kept() != 512 || x.Status().Closed {
		t.Error("all of it")
	}
	feed(t, x, fData(2, "", false))
	feed(t, x, fData(2, "y", false))
	moved(t, x, api.Move{What: api.MDone, Stream: 2, N: api.FlowControl})
	tells(t, x, fGoaway(2, api.FlowControl))
	// of a stream that is not there, too.
	y := settled(t, 0, c)
	feed(t, y, fOpen(2, api.KBytes, leaf), fReset(2, 8), fData(2, strings.Repeat("x", 256), false), fData(2, strings.Repeat("x", 256), false))
	if y.Recv().Kept() != 0 || y.Status().Closed || y.Recv().Open() != 0 {
		t.Error("used")
	}
	tells(t, y, fWindow(0, 512))
	feed(t, y, fData(2, strings.Repeat("x", 256), false), fData(2, strings.Repeat("x", 256), false), fData(2, "x", false))
	tells(t, y, fGoaway(2, api.FlowControl))
}

// P26.5: bytes that are no frame.
func TestVFrame(t *testing.T) {
	for i, c := range []struct {
		s    string
		code int
	}{
		{"\x00\x00\x01\x06\x00\x00\x00\x00\x00", api.FrameSize},
		{"\x00\x00\x00\x63\x00\x00\x00\x00\x00", api.Protocol},
	} {
		x := opened(t)
		x.Receive(c.s)
		tells(t, x, fGoaway(4, c.code))
		closedBy(t, x, c.code)
		// an earlier violation is the first one.
		y := opened(t)
		y.Receive("\x00\x00\x00\x06\x00\x00\x00\x00\x00" + c.s)
		tells(t, y, fGoaway(4, api.Protocol))
		if i == 0 {
			closedBy(t, y, api.Protocol)
		}
	}
}

// P26.5: what is wrong with a stream.
func TestStreamFaults(t *testing.T) {
	for i, c := range []struct {
		f    api.Frame
		code int
	}{
		{fData(1, strings.Repeat("x", 65), false), api.FlowControl},
		{fData(3, "x", false), api.Protocol},
		{fItem(1, "x", false), api.Protocol},
		{fItem(4, "x", false), api.Demand},
		{fWindow(3, 1), api.Protocol},
		{fWindow(3, 0), api.Protocol},
		{fRequest(1, 1), api.Protocol},
		{fWindow(1, 0), api.Protocol},
		{fRequest(4, 0), api.Protocol},
		{fWindow(2, big-63), api.FlowControl},
	} {
		x := opened(t)
		id := c.f.Stream
		feed(t, x, c.f)
		moved(t, x, api.Move{What: api.MDone, Stream: id, N: c.code})
		if x.Stream(id) != nil || x.Status().Streams != 3 || x.Status().Closed || x.Recv().Kept() != 0 {
			t.Error(i, "killed")
		}
		tells(t, x, fReset(id, c.code))
	}
	x := opened(t)
	feed(t, x, fData(2, "abc", true))
	feed(t, x, fData(2, "d", false))
	if x.Recv().Kept() != 0 || x.Recv().Open() != 512-4 {
		t.Error("used", x.Recv().Kept())
	}
	tells(t, x, fReset(2, api.StreamClosed))
}

// P26.5: streams that are refused.
func TestVBusyVLate(t *testing.T) {
	c := conf()
	c.Streams = 1
	x := settled(t, 0, c)
	feed(t, x, fOpen(2, api.KBytes, leaf), fOpen(4, api.KBytes, leaf), fData(4, "abc", false), fWindow(4, 0))
	moved(t, x, api.Move{What: api.MOpened, Stream: 2, N: 1})
	tells(t, x, fReset(4, api.Refused))
	feed(t, x, fReset(2, 5), fOpen(6, api.KItems, leaf))
	moved(t, x, api.Move{What: api.MDone, Stream: 2, N: 5}, api.Move{What: api.MOpened, Stream: 6, N: 2})
	x.Goaway()
	feed(t, x, fOpen(8, api.KItems, leaf))
	moved(t, x)
	tells(t, x, fGoaway(6, 0), fReset(8, api.Refused))
	// settings that are not acknowledged yet do not hold.
	y := made(t, 0, c)
	feed(t, y, fOpen(2, api.KBytes, leaf), fOpen(4, api.KBytes, leaf))
	if len(y.IDs()) != 2 {
		t.Error(y.IDs())
	}
}

// P26.5: settings, and their acknowledgement.
func TestSettled(t *testing.T) {
	x := opened(t)
	x.Offer(2, strings.Repeat("x", 70))
	x.Step()
	feed(t, x, fSettings(api.Param{ID: 1, Value: 10}, api.Param{ID: 77, Value: 1}))
	if n, _ := x.Credit().Size(2); n != 10-64 {
		t.Error(n)
	}
	if n, _ := x.Credit().Size(1); n != 10 {
		t.Error(n)
	}
	tells(t, x, fAck)
	feed(t, x, fSettings())
	tells(t, x, fAck)
	x.Settings(api.Settings{Window: 5, Streams: 0, Items: 1})
	x.Ask(4, 9)
	if x.Stream(2).Rx().Open() != 64 {
		t.Error("not yet")
	}
	x.Step()
	feed(t, x, fAck)
	if x.Stream(2).Rx().Open() != 5 || x.Stream(1).Rx().Open() != 5 || x.Stream(4).Rx().Due() != 0 || x.Shake().Holds().Streams != 0 {
		t.Error("held", x.Stream(2).Rx().Open())
	}
	feed(t, x, fOpen(6, api.KBytes, leaf))
	tells(t, x, fReset(6, api.Refused))
}

// P26.5: a ping, a pong, and that something was heard.
func TestPings(t *testing.T) {
	c := conf()
	c.Every, c.Wait = 3, 2
	x := settled(t, 0, c)
	ping := func(n byte) api.Frame {
		return api.Frame{Type: api.FPing, Data: "\x00\x00\x00\x00\x00\x00\x00" + string([]byte{n})}
	}
	pong := func(n byte) api.Frame {
		f := ping(n)
		f.Type = api.FPong
		return f
	}
	feed(t, x, ping(200))
	tells(t, x, pong(200))
	tick := func(n int) {
		for range n {
			x.Tick()
		}
	}
	tick(2)
	feed(t, x, fWindow(0, 1))
	tick(2)
	tells(t, x)
	tick(1)
	feed(t, x, ping(9))
	tick(3)
	x.Open(api.KBytes, 0, leaf)
	tells(t, x, ping(1), pong(9), fOpen(1, api.KBytes, leaf))
	feed(t, x, pong(2))
	tick(1)
	tells(t, x)
	feed(t, x, pong(1))
	tick(3)
	tells(t, x, ping(2))
	tick(2)
	tells(t, x, fGoaway(0, api.Lost))
	moved(t, x, api.Move{What: api.MDone, Stream: 1, N: api.Lost})
	closedBy(t, x, api.Lost)
	if x.Step() != "" || x.Tick() != 15 {
		t.Error("lost")
	}
}

// P26.5: a goaway.
func TestGoaways(t *testing.T) {
	x := opened(t)
	x.Open(api.KBytes, 0, leaf)
	feed(t, x, fGoaway(3, 0))
	moved(t, x, api.Move{What: api.MDone, Stream: 5, N: api.Refused})
	if !slices.Equal(x.IDs(), []int{1, 2, 3, 4}) || x.Status().Closed {
		t.Error(x.IDs())
	}
	feed(t, x, fGoaway(9, 0))
	moved(t, x)
	if _, e := x.Open(api.KBytes, 0, leaf); e != api.ErrRefused {
		t.Error("opens")
	}
	feed(t, x, fGoaway(0, 0))
	moved(t, x, api.Move{What: api.MDone, Stream: 1, N: api.Refused}, api.Move{What: api.MDone, Stream: 3, N: api.Refused})
	feed(t, x, fOpen(6, api.KBytes, leaf))
	if !slices.Equal(x.IDs(), []int{2, 4, 6}) {
		t.Error("the other side may")
	}
	feed(t, x, fGoaway(0, 12), fOpen(6, api.KBytes, leaf))
	moved(t, x, api.Move{What: api.MDone, Stream: 2, N: 12}, api.Move{What: api.MDone, Stream: 4, N: 12}, api.Move{What: api.MDone, Stream: 6, N: 12})
	closedBy(t, x, 12)
	if x.Step() != "" {
		t.Error("no farewell")
	}
}

// P26.5: more to be answered than waits.
func TestVFlood(t *testing.T) {
	ping := api.Frame{Type: api.FPing, Data: "12345678"}
	for i, last := range []api.Frame{ping, fSettings(), fOpen(8, 1, leaf), fData(1, strings.Repeat("x", 65), false)} {
		c := conf()
		c.Streams = 1
		x := settled(t, 0, c)
		x.Open(api.KBytes, 0, leaf)
		x.Step()
		feed(t, x, fOpen(2, 1, leaf))
		for range 64 {
			feed(t, x, ping)
		}
		if x.Queue().Room() != 0 || x.Status().Closed {
			t.Error(i, "64 may wait")
		}
		feed(t, x, fWindow(1, 1), fPriority(2, leaf), fWindow(0, 1))
		if x.Status().Closed {
			t.Error(i, "nothing to be answered")
		}
		feed(t, x, last)
		closedBy(t, x, api.Flood)
		tells(t, x, fGoaway(x.ids.Last(), api.Flood))
	}
}

// P26.5, P26.7: an item with the end, and one of nothing.
func TestItemMoves(t *testing.T) {
	x := opened(t)
	x.Ask(4, 2)
	x.Step()
	feed(t, x, fItem(4, "", false), fItem(4, "z", true))
	moved(t, x, api.Move{What: api.MCame, Stream: 4, N: 1}, api.Move{What: api.MCame, Stream: 4, N: 1, S: "z", End: true})
	feed(t, x, fItem(3, "", true))
	moved(t, x, api.Move{What: api.MCame, Stream: 3, End: true})
}

// P26.4, P26.5: a stream both of whose ends came, but which is not read, is killed: what it kept is used.
func TestKilledLate(t *testing.T) {
	for _, own := range []bool{false, true} {
		x := opened(t)
		feed(t, x, fData(2, "abc", true))
		x.Finish(2)
		x.Step()
		if x.Stream(2) == nil || x.Recv().Kept() != 3 {
			t.Error("it is there")
		}
		open := x.Stream(1)
		open.Offer("abc")
		for _, id := range []int{1, 2} {
			if own {
				x.Reset(id, 8)
			} else {
				feed(t, x, fReset(id, 8))
			}
			moved(t, x, api.Move{What: api.MDone, Stream: id, N: 8})
		}
		if !open.Done() || open.Tx().Told().Waiting() != 0 {
			t.Error("its life")
		}
		if x.Recv().Kept() != 0 || x.Stream(2) != nil {
			t.Error("used", x.Recv().Kept())
		}
	}
}

// P26.5: priorities, resets, credit, demand.
func TestOthers(t *testing.T) {
	x := opened(t)
	feed(t, x, fPriority(2, api.Dep{On: 1, Weight: 7}))
	if x.tree.Parent(2) != 1 || x.tree.Weight(2) != 7 {
		t.Error("priority")
	}
	feed(t, x, fWindow(0, 10), fWindow(1, 3), fRequest(4, 5))
	if n, _ := x.Credit().Size(0); n != 522 {
		t.Error(n)
	}
	if n, _ := x.Credit().Size(1); n != 67 {
		t.Error(n)
	}
	if x.Stream(4).Tx().Wanted() != 5 {
		t.Error("wanted")
	}
	feed(t, x, fData(2, "abc", false))
	x.Offer(2, "zz")
	feed(t, x, fReset(2, 77), fReset(2, 78), fWindow(2, 0), fPriority(2, leaf), fItem(2, "x", true), fRequest(2, 0))
	moved(t, x, api.Move{What: api.MDone, Stream: 2, N: 77})
	if x.Recv().Kept() != 0 || x.Status().Waiting != 0 {
		t.Error("killed")
	}
	tells(t, x)
}
