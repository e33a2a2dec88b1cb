package stream

import (
	"math/rand"
	"strconv"
	"strings"
	"testing"

	"paternoster/api"
	"paternoster/frame"
	"paternoster/life"
)

func conf() api.Conf {
	return api.Conf{Settings: api.Settings{Window: 10, Streams: 1, Items: 2}, SendBytes: 6, SendItems: 3}
}

func made(t *testing.T, id, kind int, own bool) *Stream {
	t.Helper()
	s, e := New(id, kind, own, conf())
	if e != api.OK || s.ID() != id || s.Kind() != kind || s.Own() != own || s.State() != life.Open || s.Gone() || s.Tx() == nil || s.Rx() == nil {
		t.Fatal(id, kind, int(e))
	}
	return s
}

func taken(t *testing.T, s *Stream, credit int, want api.Frame, is bool) {
	t.Helper()
	if f, ok := s.Take(credit); !frame.Same(f, want) || ok != is {
		t.Error(f, ok)
	}
}

func data(kind, id int, s string, end bool) api.Frame {
	return api.Frame{Type: kind - 1, Stream: id, Data: s, End: end}
}

// P24.1
func TestNew(t *testing.T) {
	made(t, 1, api.KBytes, true)
	made(t, api.MaxID, api.KItems, false)
	wrong := conf()
	wrong.SendBytes, wrong.SendItems, wrong.Strategy, wrong.Window = -1, 65, 9, -1
	items := conf()
	items.Strategy, items.Window = 9, -1
	in := conf()
	in.Items = 65
	for i, c := range []struct {
		id, kind int
		c        api.Conf
		e        api.Errno
	}{
		{0, 9, wrong, api.ErrArg}, {-1, 1, conf(), api.ErrArg}, {api.MaxID + 1, 1, conf(), api.ErrArg}, {1, 0, wrong, api.ErrKind}, {1, 3, conf(), api.ErrKind},
		{1, 1, wrong, api.ErrRange}, {1, 2, wrong, api.ErrRange}, {1, 2, items, api.ErrArg}, {1, 1, items, api.ErrRange}, {1, 1, in, api.ErrRange}, {1, 2, in, api.ErrRange},
	} {
		if s, e := New(c.id, c.kind, true, c.c); s != nil || e != c.e {
			t.Error(i, int(e))
		}
	}
	u := made(t, 1, api.KItems, true)
	for i := range 4 {
		if _, e := u.Offer("i"); (e == api.OK) != (i < 3) {
			t.Error("its Conf", i)
		}
	}
	s := made(t, 1, api.KBytes, true)
	if n, _ := s.Offer("1234567"); n != 6 || s.Rx().Open() != 10 {
		t.Error("its Conf")
	}
}

// P24.2, P24.3
func TestTake(t *testing.T) {
	s := made(t, 3, api.KBytes, true)
	taken(t, s, 9, api.Frame{}, false)
	s.Offer("abcd")
	taken(t, s, 0, api.Frame{}, false)
	taken(t, s, 3, data(1, 3, "abc", false), true)
	if s.Finish() != api.OK || s.Finish() != api.ErrState {
		t.Error("finish")
	}
	if n, e := s.Offer("x"); n != 0 || e != api.ErrState {
		t.Error("ended")
	}
	taken(t, s, 3, data(1, 3, "d", true), true)
	if s.State() != life.HalfLocal || s.Finish() != api.ErrClosed {
		t.Error("the end is out")
	}
	if n, e := s.Offer("x"); n != 0 || e != api.ErrClosed {
		t.Error("the end is out")
	}
	taken(t, s, 3, api.Frame{}, false)
	x := made(t, 4, api.KItems, false)
	x.Offer("i")
	taken(t, x, 99, api.Frame{}, false)
	x.Tx().Want(1)
	x.Finish()
	taken(t, x, 0, data(2, 4, "i", false), true)
	taken(t, x, 0, data(2, 4, "", true), true)
	if x.State() != life.HalfLocal {
		t.Error("items")
	}
	var none *Stream
	if _, e := none.Offer(""); e != api.ErrNil || none.Finish() != api.ErrNil {
		t.Error("nil")
	}
	taken(t, none, 1, api.Frame{}, false)
}

// P24.4
func TestCome(t *testing.T) {
	for i, c := range []struct {
		kind  int
		f     api.Frame
		wrong int
		right bool
		state int
	}{
		{1, data(1, 1, "abc", false), 0, true, life.Open},
		{1, data(1, 1, "abc", true), 0, true, life.HalfRemote},
		{1, data(1, 1, "12345678901", true), api.VWindow, false, life.Open},
		{1, data(2, 1, "", true), api.VKind, false, life.Open},
		{2, data(1, 1, "", true), api.VKind, false, life.Open},
		{2, data(2, 1, "a", false), api.VDemand, false, life.Open},
		{2, data(2, 1, "", true), 0, true, life.HalfRemote},
		{1, api.Frame{Type: api.FReset}, api.VKind, false, life.Open},
	} {
		s := made(t, 1, c.kind, false)
		if w, ok := s.Come(c.f); w != c.wrong || ok != c.right || s.State() != c.state {
			t.Error(i, w, ok, s.State())
		}
	}
	s := made(t, 1, api.KBytes, false)
	s.Come(data(1, 1, "", true))
	if w, ok := s.Come(data(1, 1, "", false)); w != api.VEnded || ok {
		t.Error("behind the end")
	}
	if w, ok := s.Come(data(2, 1, "", false)); w != api.VKind || ok {
		t.Error("another kind first", w)
	}
	if w, ok := (*Stream)(nil).Come(data(2, 1, "", false)); w != api.VEnded || ok {
		t.Error("nil")
	}
}

// P24.5
func TestEnd(t *testing.T) {
	for _, event := range []int{life.SendReset, life.RecvReset} {
		s := made(t, 1, api.KBytes, true)
		s.Offer("abc")
		s.Come(data(1, 1, "wxyz", false))
		if s.End(life.SendEnd) != 0 || s.End(99) != 0 || s.End(life.RecvOpen) != 0 || s.State() != life.Open || s.Rx().Kept() != 4 {
			t.Error("other events")
		}
		if s.End(event) != 4 || s.State() != life.Closed || s.Tx().Told().Waiting() != 0 || s.Rx().Kept() != 0 || !s.Gone() {
			t.Error(event)
		}
		if s.End(event) != 0 {
			t.Error("twice")
		}
		x := made(t, 1, api.KItems, true)
		x.Rx().Ask(2)
		x.Rx().Grant()
		x.Come(data(2, 1, "wxyz", false))
		if x.Rx().Kept() != 1 || x.End(event) != 0 || x.Rx().Kept() != 0 {
			t.Error("items")
		}
	}
	s := made(t, 1, api.KBytes, true)
	s.Come(data(1, 1, "wxyz", true))
	s.Finish()
	s.Take(1)
	if s.State() != life.Closed || s.End(life.SendReset) != 0 || s.Rx().Kept() != 4 || (*Stream)(nil).End(life.SendReset) != 0 {
		t.Error("closed, nil")
	}
}

// P24.6
func TestLooks(t *testing.T) {
	s := made(t, 1, api.KBytes, true)
	s.Come(data(1, 1, "ab", true))
	s.Finish()
	s.Take(0)
	if !s.Done() || s.Gone() {
		t.Error("something is there")
	}
	s.Rx().Read(2)
	if !s.Gone() {
		t.Error("gone")
	}
	var none *Stream
	if none.Tx() != nil || none.Rx() != nil || none.ID() != 0 || none.Own() || none.Kind() != 0 || !none.Gone() {
		t.Error("nil")
	}
}

// P24.7
func TestWhole(t *testing.T) {
	r := rand.New(rand.NewSource(1))
	for round := range 300 {
		kind := 1 + round%2
		a, b := made(t, 1, kind, true), made(t, 1, kind, false)
		accepted, read := "", ""
		var way []api.Frame
		credit := 10
		for i := range 100 {
			switch r.Intn(6) {
			case 0:
				s := strconv.Itoa(i) + "."
				n, e := a.Offer(s)
				if kind == api.KBytes {
					accepted += s[:n]
				} else if e == api.OK {
					accepted += s
				}
			case 1, 2:
				if f, ok := a.Take(credit); ok {
					way = append(way, f)
					credit -= len(f.Data)
				}
			case 3:
				if len(way) > 0 {
					if w, ok := b.Come(way[0]); !ok {
						t.Fatal("wrong", w)
					}
					way = way[1:]
				}
			case 4:
				s, _ := b.Rx().Read(r.Intn(5))
				read += s
				s, _, _ = b.Rx().Item()
				read += s
			case 5:
				b.Rx().Ask(r.Intn(3))
				n := b.Rx().Grant()
				credit += n
				a.Tx().Want(n)
				if r.Intn(30) == 0 {
					a.Finish()
				}
			}
			if !strings.HasPrefix(accepted, read) {
				t.Fatal(accepted, read)
			}
		}
	}
}
