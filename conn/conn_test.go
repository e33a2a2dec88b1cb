package conn

import (
	"slices"
	"strings"
	"testing"

	"paternoster/api"
	"paternoster/frame"
	"paternoster/split"
)

func conf() api.Conf {
	return api.Conf{Settings: api.Settings{Window: 64, Streams: 8, Items: 4}, SendBytes: 600, SendItems: 8}
}

func made(t *testing.T, side int, c api.Conf) *Conn {
	t.Helper()
	x, e := New(side, c)
	if e != api.OK {
		t.Fatal(int(e))
	}
	return x
}

// stepped: the frames that a step tells.
func stepped(t *testing.T, x *Conn) []api.Frame {
	t.Helper()
	l, code := split.New().Feed(x.Step())
	if code != api.NoError {
		t.Fatal("no frames", code)
	}
	return l
}

func tells(t *testing.T, x *Conn, want ...api.Frame) {
	t.Helper()
	l := stepped(t, x)
	if len(l) != len(want) {
		t.Fatalf("%d frames, not %d: %v", len(l), len(want), l)
	}
	for i := range l {
		if !frame.Same(l[i], want[i]) {
			t.Errorf("frame %d: %v, not %v", i, l[i], want[i])
		}
	}
}

// feed lets frames come.
func feed(t *testing.T, x *Conn, l ...api.Frame) {
	t.Helper()
	s, e := frame.All(l...)
	if e != api.OK {
		t.Fatal("a frame that may not be")
	}
	if e := x.Receive(s); e != api.OK {
		t.Fatal("receive", int(e))
	}
}

func moved(t *testing.T, x *Conn, want ...api.Move) {
	t.Helper()
	if l := x.Moves(); !slices.Equal(l, want) {
		t.Errorf("moves %v, not %v", l, want)
	}
}

// settled: an endpoint whose first settings went out, and are acknowledged.
func settled(t *testing.T, side int, c api.Conf) *Conn {
	t.Helper()
	x := made(t, side, c)
	x.Step()
	feed(t, x, fAck)
	return x
}

func closedBy(t *testing.T, x *Conn, code int) {
	t.Helper()
	if st := x.Status(); !st.Closed || st.Code != code || st.Streams != 0 || x.Queue().Len() != 0 || len(x.IDs()) != 0 || len(x.Credit().IDs()) != 0 {
		t.Error("closed", st)
	}
	if x.Receive("") != api.ErrClosed || len(x.Moves()) != 0 {
		t.Error("receives")
	}
	if id, e := x.Open(9, 9, api.Dep{}); id != 0 || e != api.ErrClosed {
		t.Error("opens")
	}
	if n, e := x.Offer(1, ""); n != 0 || e != api.ErrClosed {
		t.Error("offers")
	}
	if s, end, e := x.Read(1, 1); s != "" || end || e != api.ErrClosed {
		t.Error("reads")
	}
	if s, is, end, e := x.Item(1); s != "" || is || end || e != api.ErrClosed {
		t.Error("items")
	}
	for i, e := range []api.Errno{x.Finish(1), x.Ask(1, 1), x.Move(1, api.Dep{}), x.Reset(1, -1), x.Goaway(), x.Settings(api.Settings{})} {
		if e != api.ErrClosed {
			t.Error("call", i)
		}
	}
}

var fAck = api.Frame{Type: api.FAck}

func fSettings(l ...api.Param) api.Frame { return api.Frame{Type: api.FSettings, Params: l} }
func fOpen(id, kind int, d api.Dep) api.Frame {
	return api.Frame{Type: api.FOpen, Stream: id, Kind: kind, Dep: d}
}
func fData(id int, s string, end bool) api.Frame {
	return api.Frame{Type: api.FData, Stream: id, Data: s, End: end}
}
func fItem(id int, s string, end bool) api.Frame {
	return api.Frame{Type: api.FItem, Stream: id, Data: s, End: end}
}
func fReset(id, code int) api.Frame { return api.Frame{Type: api.FReset, Stream: id, Code: code} }
func fWindow(id, n int) api.Frame   { return api.Frame{Type: api.FWindow, Stream: id, N: n} }
func fRequest(id, n int) api.Frame  { return api.Frame{Type: api.FRequest, Stream: id, N: n} }
func fGoaway(last, code int) api.Frame {
	return api.Frame{Type: api.FGoaway, Last: last, Code: code}
}
func fPriority(id int, d api.Dep) api.Frame {
	return api.Frame{Type: api.FPriority, Stream: id, Dep: d}
}

var leaf = api.Dep{Weight: 16}

// P26.1
func TestNew(t *testing.T) {
	tells(t, made(t, 0, conf()), fSettings())
	c := conf()
	c.Window, c.Items = 100, 3
	tells(t, made(t, 1, c), fSettings(api.Param{ID: 1, Value: 100}, api.Param{ID: 3, Value: 3}))
	for i, k := range []struct {
		side   int
		change func(c *api.Conf)
		e      api.Errno
	}{
		{2, func(c *api.Conf) { c.Window = -1 }, api.ErrArg},
		{-1, func(c *api.Conf) {}, api.ErrArg},
		{0, func(c *api.Conf) { c.Strategy = 3 }, api.ErrArg},
		{0, func(c *api.Conf) { c.Strategy, c.SendItems = 3, 65 }, api.ErrRange},
		{0, func(c *api.Conf) { c.Strategy, c.SendBytes = 3, 4097 }, api.ErrArg},
		{0, func(c *api.Conf) { c.SendBytes = 4097 }, api.ErrRange},
		{0, func(c *api.Conf) { c.SendItems = -1 }, api.ErrRange},
		{0, func(c *api.Conf) { c.Window = 4097 }, api.ErrRange},
		{0, func(c *api.Conf) { c.Streams = 33 }, api.ErrRange},
		{0, func(c *api.Conf) { c.Items = 65 }, api.ErrRange},
		{0, func(c *api.Conf) { c.Every = -1 }, api.ErrRange},
		{0, func(c *api.Conf) { c.Wait = api.MaxTicks + 1 }, api.ErrRange},
		{0, func(c *api.Conf) { c.Stall = -1 }, api.ErrRange},
	} {
		c := conf()
		k.change(&c)
		if x, e := New(k.side, c); x != nil || e != k.e {
			t.Error(i, int(e))
		}
	}
}

// P26.2
func TestOpen(t *testing.T) {
	x := made(t, 0, conf())
	for i, c := range []struct {
		kind, strategy int
		d              api.Dep
		want           api.Errno
	}{
		{0, 9, api.Dep{}, api.ErrKind}, {3, 0, leaf, api.ErrKind}, {1, 3, api.Dep{}, api.ErrArg}, {1, -1, leaf, api.ErrArg}, {1, 0, api.Dep{}, api.ErrArg},
		{1, 0, api.Dep{Weight: 257}, api.ErrArg}, {1, 0, api.Dep{On: -1, Weight: 1}, api.ErrArg}, {1, 0, api.Dep{On: 1, Weight: 1}, api.ErrCycle},
	} {
		if id, e := x.Open(c.kind, c.strategy, c.d); id != 0 || e != c.want || x.Queue().Len() != 1 {
			t.Error(i, int(e))
		}
	}
	d := api.Dep{On: 1, Weight: 5, Excl: true}
	for i, c := range []struct {
		kind int
		d    api.Dep
	}{{api.KBytes, leaf}, {api.KItems, d}} {
		if id, e := x.Open(c.kind, 0, c.d); id != 2*i+1 || e != api.OK {
			t.Error(id, int(e))
		}
	}
	s, u := x.Stream(1), x.Stream(3)
	if !s.Own() || s.Kind() != api.KBytes || s.Rx().Open() != 64 || u.Kind() != api.KItems || !slices.Equal(x.IDs(), []int{1, 3}) || !slices.Equal(x.Credit().IDs(), []int{1}) || x.Credit().Free(1) != 64 {
		t.Error("added")
	}
	tells(t, x, fSettings(), fOpen(1, api.KBytes, leaf), fOpen(3, api.KItems, d))
	for range 6 {
		x.Open(api.KBytes, 0, leaf)
	}
	if _, e := x.Open(api.KBytes, 0, api.Dep{}); e != api.ErrLimit {
		t.Error("as many as the other side says")
	}
	feed(t, x, fSettings(api.Param{ID: api.PStreams, Value: 1 << 20}, api.Param{ID: api.PWindow, Value: 70}))
	for i := range 25 {
		if id, e := x.Open(api.KBytes, 0, leaf); (e == api.OK) != (i < 24) || e != api.OK && e != api.ErrLimit {
			t.Error("as many as may be", id, int(e))
		} else if e == api.OK && x.Credit().Free(id) != 70 {
			t.Error("the other side's window")
		}
	}
	y := made(t, 1, conf())
	for range 8 {
		y.Open(api.KBytes, 0, leaf)
	}
	for i := 0; y.Queue().Room() > 0; i++ {
		y.Move(2, leaf)
	}
	y.Step()
	y.Reset(2, 0)
	for i := 0; y.Queue().Room() > 0; i++ {
		y.Move(4, leaf)
	}
	if _, e := y.Open(api.KBytes, 0, api.Dep{On: 18, Weight: 1}); e != api.ErrCycle {
		t.Error("the new stream itself", int(e))
	}
	if id, e := y.Open(api.KBytes, 0, leaf); id != 0 || e != api.ErrFull {
		t.Error("full", int(e))
	}
	y.Step()
	y.Goaway()
	if _, e := y.Open(api.KBytes, 0, api.Dep{}); e != api.ErrRefused {
		t.Error("goaway", int(e))
	}
	if _, e := y.Open(api.KBytes, 7, api.Dep{}); e != api.ErrArg {
		t.Error("the strategy ahead of that", int(e))
	}
	if _, e := (*Conn)(nil).Open(0, 0, leaf); e != api.ErrNil {
		t.Error("nil")
	}
}

// P26.2: numbers, weights, and streams, as many as may be.
func TestMost(t *testing.T) {
	x := made(t, 0, conf())
	x.ids.Skip(api.MaxID - 2)
	if id, e := x.Open(api.KBytes, 0, api.Dep{On: api.MaxID - 1, Weight: 256}); id != api.MaxID || e != api.OK {
		t.Error("the last number", id, int(e))
	}
	if id, e := x.Open(api.KBytes, 0, api.Dep{}); id != 0 || e != api.ErrLimit {
		t.Error("no number is left", id, int(e))
	}
	if x.Move(api.MaxID, api.Dep{On: api.MaxID - 1, Weight: 256}) != api.OK {
		t.Error("move")
	}
	z := made(t, 1, conf())
	if _, e := z.Open(api.KBytes, 0, api.Dep{On: api.MaxID + 1, Weight: 256}); e != api.ErrArg {
		t.Error("too great", int(e))
	}
	if _, e := z.Open(api.KBytes, 0, api.Dep{On: api.MaxID, Weight: 256}); e != api.OK || z.Move(2, api.Dep{On: api.MaxID, Weight: 1}) != api.OK || z.Move(2, api.Dep{On: api.MaxID + 1, Weight: 1}) != api.ErrArg {
		t.Error("the greatest ones", int(e))
	}
	c := conf()
	c.Streams = 32
	y := settled(t, 1, c)
	feed(t, y, fSettings(api.Param{ID: api.PStreams, Value: 99}))
	for i := range 33 {
		y.Open(api.KItems, api.KeepLatest, leaf)
		feed(t, y, fOpen(2*i+1, api.KBytes, leaf))
		y.Step()
	}
	if st := y.Status(); st.Streams != 64 || st.Own != 32 || y.tree.Len() != 64 || y.Credit().Free(63) != 64 {
		t.Error("64 streams", st)
	}
	for i, want := range []int{1, 1, 1, 1, 1, 1, 1, 1, 3} {
		if n, e := y.Offer(2, "i"); n != want || e != api.OK {
			t.Error("its strategy", i, n)
		}
	}
}

// P26.3
func TestStreams(t *testing.T) {
	x := settled(t, 0, conf())
	x.Open(api.KBytes, 0, leaf)
	x.Open(api.KItems, api.KeepLatest, leaf)
	for i, id := range []int{5, 2, 0, -1, 7} {
		if _, e := x.Offer(id, "a"); e != api.ErrNone {
			t.Error(i, "offer", int(e))
		}
		if _, _, e := x.Read(id, 1); e != api.ErrNone {
			t.Error(i, "read", int(e))
		}
		if _, _, _, e := x.Item(id); e != api.ErrNone {
			t.Error(i, "item", int(e))
		}
		if x.Finish(id) != api.ErrNone || x.Ask(id, 0) != api.ErrNone || x.Move(id, api.Dep{}) != api.ErrNone || x.Reset(id, -1) != api.ErrNone {
			t.Error(i)
		}
	}
	if n, e := x.Offer(1, strings.Repeat("x", 700)); n != 600 || e != api.OK {
		t.Error("offer", n)
	}
	if n, e := x.Offer(3, "i"); n != 1 || e != api.OK {
		t.Error("offer", n)
	}
	if n, e := x.Offer(3, strings.Repeat("x", 257)); n != 0 || e != api.ErrBig {
		t.Error("big", n)
	}
	if x.Ask(1, 1) != api.ErrKind || x.Ask(3, 0) != api.ErrArg || x.Ask(3, 2) != api.OK {
		t.Error("ask")
	}
	x.Step()
	feed(t, x, fData(1, "abcdef", false), fItem(3, "p", false), fItem(3, "", true))
	if s, end, e := x.Read(1, 4); s != "abcd" || end || e != api.OK || x.Recv().Kept() != 2 {
		t.Error("read", s)
	}
	if s, end, e := x.Read(3, 4); s != "" || end || e != api.ErrKind {
		t.Error("items")
	}
	if s, is, end, e := x.Item(1); s != "" || is || end || e != api.ErrKind {
		t.Error("bytes")
	}
	if s, is, end, e := x.Item(3); s != "p" || !is || !end || e != api.OK {
		t.Error("item", s, is, end)
	}
	if s, is, end, e := x.Item(3); s != "" || is || !end || e != api.OK {
		t.Error("no item", s, is, end)
	}
	feed(t, x, fData(1, "", true))
	if s, end, e := x.Read(1, 1); s != "e" || end || e != api.OK {
		t.Error("ahead of the end", s)
	}
	if s, end, e := x.Read(1, 9); s != "f" || !end || e != api.OK {
		t.Error("the end", s)
	}
	if x.Finish(1) != api.OK || x.Finish(1) != api.ErrState || x.Reset(1, 0) != api.OK || x.Finish(1) != api.ErrClosed {
		t.Error("finish")
	}
	if _, e := x.Offer(1, "a"); e != api.ErrClosed {
		t.Error("not there any more")
	}
	var none *Conn
	if _, e := none.Offer(1, ""); e != api.ErrNil {
		t.Error("nil")
	}
	if _, _, e := none.Read(1, 1); e != api.ErrNil {
		t.Error("nil")
	}
	if _, _, _, e := none.Item(1); e != api.ErrNil || none.Finish(1) != api.ErrNil || none.Ask(1, 1) != api.ErrNil || none.Move(1, leaf) != api.ErrNil || none.Reset(1, 1) != api.ErrNil || none.Goaway() != api.ErrNil || none.Settings(api.Settings{}) != api.ErrNil || none.Receive("") != api.ErrNil {
		t.Error("nil")
	}
}

// P26.3: the stream is tidied.
func TestTidied(t *testing.T) {
	x := settled(t, 0, conf())
	x.Open(api.KBytes, 0, leaf)
	x.Finish(1)
	x.Step()
	feed(t, x, fData(1, "abc", true))
	if x.Stream(1) == nil {
		t.Error("something is there")
	}
	x.Read(1, 2)
	moved(t, x)
	if s, end, _ := x.Read(1, 9); s != "c" || !end {
		t.Error(s)
	}
	moved(t, x, api.Move{What: api.MDone, Stream: 1, End: true})
	if _, _, e := x.Read(1, 9); e != api.ErrClosed || x.Stream(1) != nil || len(x.Credit().IDs()) != 0 {
		t.Error("gone", int(e))
	}
}

// P26.4
func TestMoveReset(t *testing.T) {
	x := settled(t, 0, conf())
	for range 3 {
		x.Open(api.KBytes, 0, leaf)
	}
	x.Step()
	if x.Move(1, api.Dep{}) != api.ErrArg || x.Move(1, api.Dep{On: -1, Weight: 1}) != api.ErrArg || x.Move(1, api.Dep{On: 1, Weight: 1}) != api.ErrCycle {
		t.Error("move")
	}
	d := api.Dep{On: 3, Weight: 9, Excl: true}
	if x.Move(1, d) != api.OK || !slices.Equal(x.tree.Kids(3), []int{1}) || x.tree.Weight(1) != 9 {
		t.Error("move")
	}
	if x.Reset(1, -1) != api.ErrArg || x.Reset(1, api.MaxID+1) != api.ErrArg {
		t.Error("reset")
	}
	feed(t, x, fData(1, "abc", false))
	x.Offer(1, "zz")
	if x.Reset(1, api.MaxID) != api.OK || x.Reset(1, -1) != api.ErrClosed || x.Recv().Kept() != 0 || x.Status().Waiting != 0 {
		t.Error("reset")
	}
	tells(t, x, fPriority(1, d), fReset(1, api.MaxID))
	for x.Queue().Room() > 0 {
		x.Move(3, leaf)
	}
	if x.Move(3, leaf) != api.ErrFull || x.Reset(3, 1) != api.ErrFull || x.Reset(3, -1) != api.ErrArg || x.Move(3, api.Dep{On: 3, Weight: 1}) != api.ErrCycle || x.Goaway() != api.ErrFull || x.Settings(api.Settings{Window: -1}) != api.ErrFull || x.Stream(3) == nil {
		t.Error("full")
	}
}

// P26.4
func TestGoawaySettings(t *testing.T) {
	x := settled(t, 0, conf())
	feed(t, x, fOpen(6, api.KBytes, leaf))
	if x.Goaway() != api.OK || x.Goaway() != api.ErrState {
		t.Error("goaway")
	}
	if x.Settings(api.Settings{Window: 4097}) != api.ErrRange {
		t.Error("range")
	}
	for i := range 5 {
		if e := x.Settings(api.Settings{Window: i, Streams: 8, Items: 4}); (e == api.OK) != (i < 4) || e != api.OK && e != api.ErrLimit {
			t.Error(i, int(e))
		}
	}
	w := func(n int) api.Frame { return fSettings(api.Param{ID: 1, Value: n}) }
	tells(t, x, fGoaway(6, 0), w(0), w(1), w(2), w(3))
	if x.Shake().Waiting() != 4 || x.Shake().Latest().Window != 3 {
		t.Error("shake")
	}
}

// P26.7
func TestLooks(t *testing.T) {
	x := settled(t, 0, conf())
	if x.Tick() != 1 || x.Tick() != 2 {
		t.Error("tick")
	}
	x.Open(api.KBytes, 0, leaf)
	x.Open(api.KItems, 0, leaf)
	x.Ask(3, 1)
	x.Offer(1, strings.Repeat("x", 100))
	x.Offer(3, "i")
	x.Step()
	feed(t, x, fOpen(2, api.KBytes, leaf), fData(2, "abc", false), fItem(3, "q", false))
	want := api.Status{Streams: 3, Own: 2, Waiting: 37, Kept: 4, Clock: 2}
	if st := x.Status(); st != want {
		t.Error(st)
	}
	moved(t, x, api.Move{What: api.MOpened, Stream: 2, N: api.KBytes}, api.Move{What: api.MCame, Stream: 2, N: 3, S: "abc"}, api.Move{What: api.MCame, Stream: 3, N: 1, S: "q"})
	l := x.Moves()
	l[0].N = 99
	x.Tick()
	x.IDs()
	if x.Moves()[0].N != api.KBytes {
		t.Error("its own memory, and kept by what is no such call")
	}
	x.Ask(3, 1)
	moved(t, x)
	var none *Conn
	if none.Tick() != 0 || len(none.Moves()) != 0 || none.Status() != (api.Status{}) || none.Stream(1) != nil || len(none.IDs()) != 0 || none.Credit() != nil || none.Recv() != nil || none.Shake() != nil || none.Queue() != nil || none.Step() != "" {
		t.Error("nil")
	}
}
