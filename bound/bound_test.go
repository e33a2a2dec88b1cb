package bound

import (
	"math/rand"
	"slices"
	"strings"
	"testing"

	"paternoster/api"
	"paternoster/conn"
	"paternoster/duplex"
	"paternoster/frame"
)

func conf() api.Conf {
	return api.Conf{Settings: api.Settings{Window: 64, Streams: 8, Items: 4}, SendBytes: 300, SendItems: 8}
}

func made(t *testing.T, a, b api.Conf) *duplex.Duplex {
	t.Helper()
	d, e := duplex.New(a, b)
	if e != api.OK {
		t.Fatal(int(e))
	}
	return d
}

var leaf = api.Dep{Weight: 16}

// P32.1
func TestMemory(t *testing.T) {
	for i, c := range []struct {
		c    api.Conf
		most api.Settings
		want int
	}{
		{api.Conf{}, api.Settings{Streams: 8}, 64 * 265},
		{api.Conf{}, api.Settings{Streams: -8, Window: 1}, 32 + 64*265},
		{api.Conf{SendBytes: 300, SendItems: 1}, api.Settings{Streams: 8, Window: 100, Items: 1}, 40*(300+256) + 64*265},
		{api.Conf{SendBytes: 200, SendItems: 1}, api.Settings{Streams: 0, Window: 600, Items: 2}, 32*(256+600) + 64*265},
		{api.Conf{Settings: api.Settings{Window: 4096, Streams: 32}}, api.Settings{}, 64 * 265},
	} {
		if n := Memory(c.c, c.most); n != c.want {
			t.Error(i, n)
		}
	}
}

// P32.2
func TestHolds(t *testing.T) {
	d := made(t, conf(), conf())
	if Holds(d.Conn(0)) != 265 || Left(d.Conn(0)) != 0 || Rounds(d) != 10 {
		t.Error("new", Holds(d.Conn(0)))
	}
	for _, a := range []api.Act{
		{Kind: api.XOpen, N: 1, Dep: leaf}, {Kind: api.XOpen, N: 2, Dep: leaf}, {Kind: api.XOffer, ID: 1, S: "abcde"}, {Kind: api.XOffer, ID: 3, S: "i"}, {Kind: api.XOffer, ID: 3, S: ""},
	} {
		d.Do(a)
	}
	if Holds(d.Conn(0)) != 3*265+5+2*256 || Left(d.Conn(0)) != 7 || Rounds(d) != 24 {
		t.Error(Holds(d.Conn(0)), Left(d.Conn(0)))
	}
	d.Do(api.Act{Kind: api.XStep})
	d.Do(api.Act{Kind: api.XDeliver, Side: 1, N: 900})
	d.Do(api.Act{Kind: api.XOffer, Side: 1, ID: 1, S: "xyz"})
	if Holds(d.Conn(1)) != 2*265+5+3 || Left(d.Conn(1)) != 3 || Left(d.Conn(0)) != 2 || Rounds(d) != 20 {
		t.Error(Holds(d.Conn(1)), Left(d.Conn(1)))
	}
	if Holds(nil) != 0 || Left(nil) != 0 || Rounds(nil) != 10 || len(Round(nil)) != 0 {
		t.Error("nil")
	}
}

// P32.3
func TestRound(t *testing.T) {
	d := made(t, conf(), conf())
	d.Do(api.Act{Kind: api.XOpen, N: 1, Dep: leaf})
	d.Do(api.Act{Kind: api.XOpen, N: 2, Dep: leaf})
	d.Do(api.Act{Kind: api.XOffer, ID: 1, S: "abcde"})
	d.Do(api.Act{Kind: api.XOffer, ID: 3, S: "i"})
	e := made(t, conf(), conf())
	e.Do(api.Act{Kind: api.XOpen, N: 1, Dep: leaf})
	e.Do(api.Act{Kind: api.XOpen, N: 2, Dep: leaf})
	e.Do(api.Act{Kind: api.XOffer, ID: 1, S: "abcde"})
	e.Do(api.Act{Kind: api.XOffer, ID: 3, S: "i"})
	first := Round(d)
	if len(first) != 10 || first[0] != (api.Act{Kind: api.XStep}) || first[1] != (api.Act{Kind: api.XStep, Side: 1}) || first[2] != (api.Act{Kind: api.XDeliver, N: 9}) || first[3] != (api.Act{Kind: api.XDeliver, Side: 1, N: 57}) {
		t.Error(first)
	}
	if first[4] != (api.Act{Kind: api.XRead, ID: 1, N: 4096}) || first[5] != (api.Act{Kind: api.XItem, ID: 3}) || first[6] != (api.Act{Kind: api.XAsk, ID: 3, N: 64}) || first[7].Side != 1 {
		t.Error(first)
	}
	acts := append(first, Round(d)...)
	acts = append(acts, Round(d)...)
	read := ""
	for _, a := range acts {
		read += e.Do(a).S
	}
	if read != "abcdei" || Left(d.Conn(0)) != 0 || e.Conn(1).Status() != d.Conn(1).Status() {
		t.Error(read)
	}
}

// anyAct: acts, as anybody may do; of settings no window and no items are 0.
func anyAct(r *rand.Rand) api.Act {
	kinds := []int{1, 1, 2, 2, 2, 2, 2, 3, 4, 5, 6, 7, 8, 10, 11, 12, 12}
	a := api.Act{
		Kind: kinds[r.Intn(len(kinds))], Side: r.Intn(2), ID: 1 + r.Intn(14), N: 1 + r.Intn(90), S: strings.Repeat("q", r.Intn(200)),
		Dep: api.Dep{On: r.Intn(14), Weight: 1 + r.Intn(256), Excl: r.Intn(3) == 0}, Settings: api.Settings{Window: 1 + r.Intn(300), Streams: r.Intn(33), Items: 1 + r.Intn(9)},
	}
	if a.Kind == api.XOpen {
		a.N = 1 + r.Intn(2)
	}
	return a
}

// P32.4
func TestBounded(t *testing.T) {
	r := rand.New(rand.NewSource(1))
	for range 100 {
		c := conf()
		c.SendBytes, c.SendItems, c.Strategy = r.Intn(300), r.Intn(9), r.Intn(3)
		d := made(t, c, c)
		for range 400 {
			a := anyAct(r)
			if r.Intn(20) == 0 {
				a.Kind = api.XInject
				a.S, _ = frame.All(api.Frame{Type: api.FOpen, Stream: 2 - a.Side + 2*r.Intn(40), Kind: 1 + r.Intn(2), Dep: leaf}, api.Frame{Type: r.Intn(2), Stream: 1 + r.Intn(20), Data: strings.Repeat("q", r.Intn(90))})
			}
			d.Do(a)
			for side := range 2 {
				x := d.Conn(side)
				if Holds(x) > Memory(c, x.Shake().Most()) {
					t.Fatal("holds", Holds(x))
				}
			}
		}
	}
}

// ends: how many streams have nothing but their end to send.
func ends(x *conn.Conn) int {
	n := 0
	for _, id := range x.IDs() {
		s := x.Stream(id)
		if s.MaySend() && s.Tx().Told().Waiting() == 0 && s.Tx().Ready(0) {
			n++
		}
	}
	return n
}

// P32.5
func TestDelivered(t *testing.T) {
	r := rand.New(rand.NewSource(2))
	delivered := 0
	for round := range 150 {
		c, b := conf(), conf()
		c.Window, b.Items, b.Streams = 1+r.Intn(80), 1+r.Intn(6), 1+r.Intn(32)
		if round%3 == 0 {
			c.Window, b.Window = 1, 1
		}
		d := made(t, c, b)
		for range 300 + r.Intn(300) {
			a := anyAct(r)
			if round%3 == 0 && a.Kind == api.XSettings {
				a.Window = 1
			}
			if d.Conn(a.Side).Queue().Room() < 32 {
				a = api.Act{Kind: api.XStep, Side: a.Side}
			}
			d.Do(a)
			if r.Intn(40) == 0 {
				Round(d)
			}
		}
		if d.Conn(0).Status().Closed || d.Conn(1).Status().Closed || ends(d.Conn(0))+ends(d.Conn(1)) > 40 {
			continue
		}
		delivered++
		left := Left(d.Conn(0)) + Left(d.Conn(1))
		for range Rounds(d) {
			if Left(d.Conn(0))+Left(d.Conn(1)) == 0 {
				break
			}
			Round(d)
		}
		if Left(d.Conn(0))+Left(d.Conn(1)) != 0 {
			t.Fatal("left", round, left, Left(d.Conn(0)), Left(d.Conn(1)))
		}
	}
	if delivered < 60 {
		t.Error("too few", delivered)
	}
	if !slices.Equal(Round(made(t, conf(), conf())), []api.Act{{Kind: 11}, {Kind: 11, Side: 1}, {Kind: 12, N: 9}, {Kind: 12, Side: 1, N: 9}}) {
		t.Error("a round of nobody")
	}
}
