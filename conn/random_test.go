package conn

import (
	"math/rand"
	"strconv"
	"strings"
	"testing"

	"paternoster/api"
	"paternoster/frame"
)

// sums: what an endpoint keeps must be what it got, and has not used.
func sums(t *testing.T, x *Conn) {
	t.Helper()
	if x.Status().Closed {
		return
	}
	kept, most := 0, x.Shake().Most()
	for _, id := range x.IDs() {
		s := x.Stream(id)
		if s.Kind() == api.KBytes {
			kept += s.Rx().Kept()
			if s.Rx().Kept() > most.Window {
				t.Fatal("more bytes than the greatest window")
			}
		} else if s.Rx().Kept()+s.Rx().Open() > most.Items {
			t.Fatal("more items than the greatest room")
		}
		if s.Gone() || x.tree.Has(id) == false {
			t.Fatal("not tidied", id)
		}
	}
	if x.Recv().Kept() != kept || kept > api.ConnWindow || x.tree.Len() != len(x.IDs()) || x.Queue().Len() > api.MaxOut || x.split.Kept() > 8+api.MaxFrame {
		t.Fatal("kept", x.Recv().Kept(), kept)
	}
	for _, id := range x.Credit().IDs() {
		if x.Stream(id) == nil {
			t.Fatal("credit of nothing")
		}
	}
	if len(x.IDs()) > 64 {
		t.Fatal("too many")
	}
}

// user does something with an endpoint, as anybody may.
type user struct {
	x              *Conn
	accepted, read map[int]string
}

func (u *user) act(r *rand.Rand, windows int) {
	x := u.x
	id := 1 + r.Intn(12)
	if ids := x.IDs(); len(ids) > 0 && r.Intn(8) > 0 {
		id = ids[r.Intn(len(ids))]
	}
	d := api.Dep{On: r.Intn(12), Weight: 1 + r.Intn(256), Excl: r.Intn(2) == 0}
	switch r.Intn(16) {
	case 0:
		x.Open(1+r.Intn(2), 0, d)
	case 1, 2, 3, 4:
		s := strconv.Itoa(r.Intn(1000)) + strings.Repeat(".", r.Intn(200))
		bytes := x.Stream(id).Kind() == api.KBytes
		if n, e := x.Offer(id, s); e == api.OK && bytes {
			u.accepted[id] += s[:n]
		} else if e == api.OK {
			u.accepted[id] += s
		}
	case 5:
		if r.Intn(4) == 0 {
			x.Finish(id)
		}
	case 6, 7, 8:
		s, _, _ := x.Read(id, r.Intn(300))
		u.read[id] += s
	case 9, 10, 11:
		s, _, _, _ := x.Item(id)
		u.read[id] += s
	case 12, 13:
		x.Ask(id, r.Intn(5))
	case 14:
		x.Move(id, d)
		if r.Intn(10) == 0 {
			x.Reset(id, api.Cancel)
		}
	case 15:
		x.Settings(api.Settings{Window: r.Intn(windows), Streams: 1 + r.Intn(8), Items: r.Intn(9)})
	}
}

// P26.8, P26.9
func TestPeace(t *testing.T) {
	r := rand.New(rand.NewSource(1))
	for round := range 60 {
		c := conf()
		c.Window = []int{0, 1, 64, 500, 4096}[round%5]
		u := [2]*user{}
		way := [2]string{}
		for side := range 2 {
			u[side] = &user{made(t, side, c), map[int]string{}, map[int]string{}}
		}
		for range 600 {
			side := r.Intn(2)
			x, y := u[side].x, u[1-side].x
			switch r.Intn(6) {
			case 0, 1:
				way[1-side] += x.Step()
			case 2, 3:
				n := r.Intn(len(way[side]) + 1)
				x.Receive(way[side][:n])
				way[side] = way[side][n:]
			default:
				if x.Queue().Room() > 30 {
					u[side].act(r, 1+c.Window)
				}
			}
			for _, m := range x.Moves() {
				if m.What == api.MDone && m.N != api.NoError && m.N != api.Cancel && m.N != api.Refused {
					t.Fatal("fails", m)
				}
			}
			sums(t, x)
			sent, _ := x.Credit().Spent(0)
			if x.Status().Closed || sent > y.Recv().Granted() {
				t.Fatal("closed, or more than was granted", x.Status())
			}
			for id, s := range u[side].read {
				if !strings.HasPrefix(u[1-side].accepted[id], s) {
					t.Fatal("read", id, s)
				}
			}
		}
	}
}

// anything: bytes that may be nearly everything.
func anything(r *rand.Rand) string {
	s := ""
	for range 1 + r.Intn(4) {
		f := api.Frame{Type: r.Intn(12), Stream: r.Intn(12)}
		switch f.Type {
		case api.FData, api.FItem:
			f.Data, f.End = strings.Repeat("q", r.Intn(40)), r.Intn(9) == 0
		case api.FOpen, api.FPriority:
			f.Dep = api.Dep{On: r.Intn(14), Weight: 1 + r.Intn(256), Excl: r.Intn(2) == 0}
			if f.Type == api.FOpen {
				f.Kind, f.Stream = 1+r.Intn(2), 2+2*r.Intn(20)
			}
		case api.FPing, api.FPong:
			f.Data, f.Stream = "\x00\x00\x00\x00\x00\x00\x00\x01", 0
		case api.FWindow, api.FRequest:
			f.N = r.Intn(90)
		case api.FSettings:
			f.Stream, f.Params = 0, []api.Param{{ID: r.Intn(5), Value: r.Intn(5000)}}
		case api.FGoaway:
			f.Stream, f.Last, f.Code = 0, r.Intn(9), r.Intn(40)/39
		case api.FAck:
			f.Stream = 0
		}
		if b, e := frame.Put(f); e == api.OK && (f.Type != api.FAck || r.Intn(9) == 0) {
			s += b
		}
	}
	if r.Intn(40) == 0 {
		b := []byte(s + "x")
		b[r.Intn(len(b))] ^= byte(1 << r.Intn(8))
		s = string(b)
	}
	return s
}

// P26.10
func TestHarm(t *testing.T) {
	r := rand.New(rand.NewSource(2))
	closed := 0
	for round := range 400 {
		c := conf()
		c.Window, c.Every, c.Wait, c.Stall = r.Intn(300), round%2*50, 50, round%3*60
		u := &user{made(t, 0, c), map[int]string{}, map[int]string{}}
		x := u.x
		for range 300 {
			switch r.Intn(4) {
			case 0:
				x.Step()
			case 1:
				x.Receive(anything(r))
			case 2:
				x.Tick()
			case 3:
				u.act(r, 300)
			}
			sums(t, x)
			if !x.Status().Closed {
				continue
			}
			closed++
			if code := x.Status().Code; len(x.Moves()) > 0 && code == api.NoError && x.Moves()[len(x.Moves())-1].N != 0 {
				t.Fatal("code", code)
			}
			x.Step()
			if s := x.Step(); s != "" || x.Receive(anything(r)) != api.ErrClosed || len(x.Moves()) != 0 || x.Status().Kept != 0 {
				t.Fatal("closed, it tells", s)
			}
			break
		}
	}
	if closed < 100 {
		t.Error("too few", closed)
	}
}
