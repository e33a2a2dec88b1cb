package sniff

import (
	"math/rand"
	"slices"
	"strings"
	"testing"

	"paternoster/api"
	"paternoster/conn"
	"paternoster/frame"
)

func laid(t *testing.T, l ...api.Frame) string {
	t.Helper()
	s, e := frame.All(l...)
	if e != api.OK {
		t.Fatal("a frame that may not be")
	}
	return s
}

func sees(t *testing.T, x *Sniff, side int, f api.Frame, want ...int) {
	t.Helper()
	if l := x.See(side, laid(t, f)); !slices.Equal(l, want) {
		t.Errorf("%v: %v, not %v", f, l, want)
	}
}

func credits(t *testing.T, x *Sniff, id int, want ...int) {
	t.Helper()
	if l := []int{x.Bytes(0, id), x.Bytes(1, id), x.Items(0, id), x.Items(1, id)}; !slices.Equal(l, want) {
		t.Errorf("credits of %d: %v, not %v", id, l, want)
	}
}

func fOpen(id int) api.Frame {
	return api.Frame{Type: api.FOpen, Stream: id, Kind: 1, Dep: api.Dep{Weight: 1}}
}
func fData(id, n int, end bool) api.Frame {
	return api.Frame{Type: api.FData, Stream: id, Data: strings.Repeat("x", n), End: end}
}
func fItem(id int, s string, end bool) api.Frame {
	return api.Frame{Type: api.FItem, Stream: id, Data: s, End: end}
}
func fWindow(id, n int) api.Frame { return api.Frame{Type: api.FWindow, Stream: id, N: n} }
func fRequest(id, n int) api.Frame {
	return api.Frame{Type: api.FRequest, Stream: id, N: n}
}
func window(n int) api.Frame {
	return api.Frame{Type: api.FSettings, Params: []api.Param{{ID: 1, Value: n}}}
}

var ack = api.Frame{Type: api.FAck}

// P33.1: bytes.
func TestData(t *testing.T) {
	x := New()
	credits(t, x, 0, 512, 512, 0, 0)
	sees(t, x, 0, fOpen(1))
	credits(t, x, 1, 64, 64, 0, 0)
	sees(t, x, 0, fData(1, 65, false), api.VWindow)
	credits(t, x, 1, 0, 64, 0, 0)
	credits(t, x, 0, 447, 512, 0, 0)
	sees(t, x, 1, fData(1, 64, false))
	sees(t, x, 1, fData(1, 0, false))
	sees(t, x, 1, fData(1, 1, false), api.VWindow)
	sees(t, x, 0, fWindow(1, 20))
	sees(t, x, 1, fData(1, 20, true))
	credits(t, x, 1, 0, 0, 0, 0)
	credits(t, x, 0, 447, 427, 0, 0)
	sees(t, x, 0, fData(99, 200, false))
	sees(t, x, 0, fData(99, 247, false))
	sees(t, x, 0, fData(1, 1, false), api.VConn, api.VWindow)
	sees(t, x, 1, fWindow(0, 5))
	sees(t, x, 1, fWindow(99, 5))
	sees(t, x, 0, fData(99, 6, false), api.VConn)
	credits(t, x, 0, 0, 427, 0, 0)
	credits(t, x, 99, 0, 0, 0, 0)
	sees(t, x, 1, fOpen(1))
	credits(t, x, 1, 0, 0, 0, 0)
	if !slices.Equal(x.Streams(), []int{1}) {
		t.Error(x.Streams())
	}
}

// P33.1: items.
func TestItems(t *testing.T) {
	x := New()
	sees(t, x, 1, fOpen(4))
	sees(t, x, 1, fItem(4, "", true))
	sees(t, x, 1, fItem(4, "", false), api.VDemand)
	sees(t, x, 0, fRequest(4, 2))
	credits(t, x, 4, 64, 64, 0, 2)
	sees(t, x, 1, fItem(4, "a", false))
	sees(t, x, 1, fItem(4, "a", true))
	sees(t, x, 1, fItem(4, "a", false), api.VDemand)
	sees(t, x, 0, fItem(4, "a", false), api.VDemand)
	sees(t, x, 1, fItem(6, "a", false), api.VDemand)
	sees(t, x, 1, fRequest(6, 1))
	sees(t, x, 1, api.Frame{Type: api.FReset, Stream: 4})
	credits(t, x, 4, 64, 64, 0, 0)
}

// P33.1: settings, and from which on a credit is changed.
func TestSettings(t *testing.T) {
	x := New()
	sees(t, x, 0, fOpen(1))
	sees(t, x, 1, window(100))
	sees(t, x, 1, window(10))
	sees(t, x, 0, fOpen(3))
	credits(t, x, 3, 64, 64, 0, 0)
	sees(t, x, 1, fOpen(2))
	credits(t, x, 2, 10, 64, 0, 0)
	sees(t, x, 0, ack)
	credits(t, x, 1, 100, 64, 0, 0)
	credits(t, x, 3, 100, 64, 0, 0)
	credits(t, x, 2, 10, 64, 0, 0)
	sees(t, x, 0, fOpen(5))
	credits(t, x, 5, 100, 64, 0, 0)
	sees(t, x, 0, fData(1, 50, false))
	sees(t, x, 0, ack)
	credits(t, x, 1, -40, 64, 0, 0)
	credits(t, x, 2, 10, 64, 0, 0)
	credits(t, x, 5, 10, 64, 0, 0)
	sees(t, x, 0, fData(1, 0, true))
	credits(t, x, 1, -40, 64, 0, 0)
	sees(t, x, 0, ack)
	sees(t, x, 1, ack)
	credits(t, x, 1, -40, 64, 0, 0)
	sees(t, x, 1, window(20))
	sees(t, x, 0, ack)
	credits(t, x, 1, -30, 64, 0, 0)
	credits(t, x, 2, 20, 64, 0, 0)
	sees(t, x, 0, fData(1, 1, true), api.VWindow)
	credits(t, x, 1, 0, 64, 0, 0)
	sees(t, x, 0, window(0))
	sees(t, x, 1, fOpen(8))
	credits(t, x, 8, 20, 64, 0, 0)
	sees(t, x, 1, ack)
	credits(t, x, 8, 20, 0, 0, 0)
	credits(t, x, 2, 20, 0, 0, 0)
}

// P33.1, P33.2
func TestSee(t *testing.T) {
	x := New()
	s := laid(t, fOpen(1), fData(1, 65, false), fItem(1, "a", false))
	for i := range len(s) {
		if l := x.See(0, s[i:i+1]); len(l) > 0 != (i == len(s)-11 || i == len(s)-1) {
			t.Error("byte by byte", i, l)
		}
	}
	y := New()
	if l := y.See(0, s+"\x00\x00\x00\x63\x00\x00\x00\x00\x00"+s); !slices.Equal(l, []int{api.VWindow, api.VDemand, api.VFrame}) {
		t.Error("broken", l)
	}
	if l := y.See(0, s); len(l) != 0 {
		t.Error("broken", l)
	}
	sees(t, y, 1, fData(1, 65, false), api.VWindow)
	if l := y.See(-1, s); len(l) != 0 || len(y.See(2, s)) != 0 {
		t.Error("no side")
	}
	var none *Sniff
	if len(none.See(0, s)) != 0 || none.Bytes(0, 0) != 0 || none.Bytes(0, 1) != 0 || none.Items(0, 1) != 0 || len(none.Streams()) != 0 {
		t.Error("nil")
	}
	if y.Bytes(-1, 0) != 0 || y.Bytes(2, 1) != 0 || y.Items(2, 1) != 0 || y.Items(0, 0) != 0 || y.Bytes(0, -1) != 0 {
		t.Error("none")
	}
	y.See(1, laid(t, fOpen(8), fOpen(4)))
	if !slices.Equal(y.Streams(), []int{1, 4, 8}) {
		t.Error(y.Streams())
	}
}

// P33.3, P33.4
func TestPeace(t *testing.T) {
	r := rand.New(rand.NewSource(1))
	told := 0
	for range 80 {
		c := api.Conf{Settings: api.Settings{Window: r.Intn(300), Streams: 8, Items: r.Intn(9)}, SendBytes: 600, SendItems: 8}
		x, way := New(), [2]string{}
		var ends [2]*conn.Conn
		for side := range 2 {
			ends[side], _ = conn.New(side, c)
		}
		for range 500 {
			side, id := r.Intn(2), 1+r.Intn(9)
			e := ends[side]
			switch r.Intn(12) {
			case 0, 1, 2:
				s := e.Step()
				if l := x.See(side, s); len(l) > 0 {
					t.Fatal("wrong", l)
				}
				way[1-side] += s
			case 3, 4, 5:
				n := r.Intn(len(way[side]) + 1)
				e.Receive(way[side][:n])
				way[side] = way[side][n:]
			case 6:
				e.Open(1+r.Intn(2), 0, api.Dep{Weight: 1 + r.Intn(99)})
			case 7, 8:
				e.Offer(id, strings.Repeat("x", r.Intn(200)))
			case 9:
				e.Read(id, 200)
				e.Item(id)
				e.Ask(id, 1+r.Intn(3))
			case 10:
				if r.Intn(4) == 0 {
					e.Finish(id)
				}
			case 11:
				e.Settings(api.Settings{Window: r.Intn(300), Streams: 8, Items: r.Intn(9)})
			}
		}
		// when nothing is on its way any more, both know the same.
		for k := range 20 {
			side := k % 2
			s := ends[side].Step()
			if l := x.See(side, s); len(l) > 0 {
				t.Fatal("wrong", l)
			}
			ends[1-side].Receive(way[1-side] + s)
			way[1-side] = ""
		}
		for side, e := range ends {
			for _, id := range append(e.Credit().IDs(), 0) {
				if n, _ := e.Credit().Size(id); n != x.Bytes(side, id) {
					t.Fatal("credit", id, n, x.Bytes(side, id))
				}
			}
			for _, id := range e.IDs() {
				if n := e.Stream(id).Tx().Wanted(); n != x.Items(side, id) {
					t.Fatal("demand", id, n, x.Items(side, id))
				}
			}
		}
		// whoever sends more is told.
		for _, id := range x.Streams() {
			for side := range 2 {
				n := max(x.Bytes(side, id), 0)
				if n < min(256, x.Bytes(side, 0)) {
					told++
					sees(t, x, side, fData(id, n+1, false), api.VWindow)
				}
			}
		}
		for side := range 2 {
			x.See(side, laid(t, fOpen(999)))
			k := 0
			for len(x.See(side, laid(t, fData(1001, 64, false)))) == 0 {
				k++
			}
			if k > 8 {
				t.Fatal("the connection's", k)
			}
		}
	}
	if told < 100 {
		t.Error("too few", told)
	}
}
