package duplex

import (
	"math/rand"
	"slices"
	"strconv"
	"strings"
	"testing"

	"paternoster/api"
)

func conf() api.Conf {
	return api.Conf{Settings: api.Settings{Window: 64, Streams: 8, Items: 4}, SendBytes: 200, SendItems: 8}
}

func made(t *testing.T) *Duplex {
	t.Helper()
	d, e := New(conf(), conf())
	if e != api.OK {
		t.Fatal(int(e))
	}
	return d
}

func told(t *testing.T, d *Duplex, a api.Act, want api.Told) {
	t.Helper()
	if got := d.Do(a); got != want {
		t.Errorf("%v: %v, not %v", a, got, want)
	}
}

var leaf = api.Dep{Weight: 16}

// P28.1
func TestNew(t *testing.T) {
	a, b := conf(), conf()
	a.Strategy, b.Window = 9, -1
	if d, e := New(a, b); d != nil || e != api.ErrArg {
		t.Error("side 0 first", int(e))
	}
	if d, e := New(conf(), b); d != nil || e != api.ErrRange {
		t.Error("side 1", int(e))
	}
}

// P28.2
func TestDo(t *testing.T) {
	d := made(t)
	told(t, d, api.Act{Kind: api.XOpen, N: api.KBytes, Dep: leaf}, api.Told{N: 1})
	told(t, d, api.Act{Kind: api.XOpen, N: api.KItems, Code: api.KeepLatest, Dep: leaf}, api.Told{N: 3})
	told(t, d, api.Act{Kind: api.XOpen, N: api.KItems, Code: 9, Dep: leaf}, api.Told{E: api.ErrArg})
	told(t, d, api.Act{Kind: api.XOpen, N: 9, Dep: leaf}, api.Told{E: api.ErrKind})
	told(t, d, api.Act{Kind: api.XOpen, Side: 1, N: api.KBytes}, api.Told{E: api.ErrArg})
	told(t, d, api.Act{Kind: api.XOffer, ID: 1, S: "hello"}, api.Told{N: 5})
	told(t, d, api.Act{Kind: api.XOffer, ID: 3, S: "item"}, api.Told{N: 1})
	told(t, d, api.Act{Kind: api.XOffer, ID: 9, S: "x"}, api.Told{E: api.ErrNone})
	got := d.Do(api.Act{Kind: api.XStep})
	if got.E != api.OK || got.N != d.Way(1) || got.N != 9+17+17+14 || d.Way(0) != 0 {
		t.Error("step", got)
	}
	told(t, d, api.Act{Kind: api.XDeliver, Side: 1, N: 10}, api.Told{N: 10})
	told(t, d, api.Act{Kind: api.XDeliver, Side: 1, N: 900}, api.Told{N: 47})
	told(t, d, api.Act{Kind: api.XDeliver, Side: 1, N: 900}, api.Told{})
	told(t, d, api.Act{Kind: api.XDeliver, Side: 1, N: -1}, api.Told{})
	told(t, d, api.Act{Kind: api.XRead, Side: 1, ID: 1, N: 2}, api.Told{S: "he", N: 2})
	told(t, d, api.Act{Kind: api.XRead, Side: 1, ID: 3, N: 2}, api.Told{E: api.ErrKind})
	told(t, d, api.Act{Kind: api.XAsk, Side: 1, ID: 3, N: 2}, api.Told{})
	told(t, d, api.Act{Kind: api.XAsk, Side: 1, ID: 3}, api.Told{E: api.ErrArg})
	told(t, d, api.Act{Kind: api.XFinish, ID: 1}, api.Told{})
	told(t, d, api.Act{Kind: api.XFinish, ID: 1}, api.Told{E: api.ErrState})
	told(t, d, api.Act{Kind: api.XFinish, ID: 3}, api.Told{})
	d.Do(api.Act{Kind: api.XStep, Side: 1})
	d.Do(api.Act{Kind: api.XDeliver, N: 900})
	d.Do(api.Act{Kind: api.XStep})
	d.Do(api.Act{Kind: api.XDeliver, Side: 1, N: 900})
	told(t, d, api.Act{Kind: api.XRead, Side: 1, ID: 1, N: 200}, api.Told{S: "llo", N: 3, End: true})
	told(t, d, api.Act{Kind: api.XItem, Side: 1, ID: 3}, api.Told{S: "item", Is: true, End: true})
	told(t, d, api.Act{Kind: api.XItem, Side: 1, ID: 3}, api.Told{End: true})
	told(t, d, api.Act{Kind: api.XItem, Side: 1, ID: 1}, api.Told{E: api.ErrKind})
	told(t, d, api.Act{Kind: api.XMove, Side: 1, ID: 3, Dep: api.Dep{On: 3, Weight: 1}}, api.Told{E: api.ErrCycle})
	told(t, d, api.Act{Kind: api.XMove, Side: 1, ID: 3, Dep: leaf}, api.Told{})
	told(t, d, api.Act{Kind: api.XReset, ID: 3, Code: -1}, api.Told{E: api.ErrArg})
	told(t, d, api.Act{Kind: api.XReset, ID: 3, Code: 8}, api.Told{})
	told(t, d, api.Act{Kind: api.XReset, ID: 3, Code: 8}, api.Told{E: api.ErrClosed})
	told(t, d, api.Act{Kind: api.XSettings, Settings: api.Settings{Window: 9999}}, api.Told{E: api.ErrRange})
	told(t, d, api.Act{Kind: api.XSettings, Settings: api.Settings{Window: 99}}, api.Told{})
	told(t, d, api.Act{Kind: api.XGoaway}, api.Told{})
	told(t, d, api.Act{Kind: api.XGoaway}, api.Told{E: api.ErrState})
	told(t, d, api.Act{Kind: api.XTick, Side: 77}, api.Told{N: 1})
	told(t, d, api.Act{Kind: api.XTick}, api.Told{N: 2})
	if d.Conn(1).Status().Clock != 2 {
		t.Error("both tick")
	}
}

// P28.2
func TestWrongActs(t *testing.T) {
	d := made(t)
	for _, k := range []int{0, -1, 15, 1 << 40} {
		told(t, d, api.Act{Kind: k, Side: 9}, api.Told{E: api.ErrArg})
	}
	for k := api.XOpen; k <= api.XInject; k++ {
		for _, side := range []int{-1, 2} {
			if k != api.XTick {
				told(t, d, api.Act{Kind: k, Side: side}, api.Told{E: api.ErrRange})
			}
		}
	}
	var none *Duplex
	told(t, none, api.Act{}, api.Told{E: api.ErrNil})
}

// P28.2: what is lost, what is injected, and whoever is closed.
func TestInject(t *testing.T) {
	d := made(t)
	told(t, d, api.Act{Kind: api.XInject, S: strings.Repeat("x", api.MaxLink)}, api.Told{})
	told(t, d, api.Act{Kind: api.XInject, S: "y"}, api.Told{E: api.ErrFull})
	told(t, d, api.Act{Kind: api.XStep, Side: 1}, api.Told{E: api.ErrFull, N: 9})
	if d.Way(0) != api.MaxLink || d.Conn(1).Queue().Len() != 0 {
		t.Error("the step was done")
	}
	told(t, d, api.Act{Kind: api.XDeliver, N: 20}, api.Told{N: 20})
	if d.Conn(0).Status().Code != api.FrameSize {
		t.Error(d.Conn(0).Status())
	}
	told(t, d, api.Act{Kind: api.XDeliver, N: 5}, api.Told{E: api.ErrClosed, N: 5})
	if d.Way(0) != api.MaxLink-25 {
		t.Error("they have left")
	}
	told(t, d, api.Act{Kind: api.XOpen, N: 1, Dep: leaf}, api.Told{E: api.ErrClosed})
	told(t, d, api.Act{Kind: api.XStep}, api.Told{N: 17})
	told(t, d, api.Act{Kind: api.XStep}, api.Told{})
	e := made(t)
	e.Do(api.Act{Kind: api.XStep, Side: 1})
	told(t, e, api.Act{Kind: api.XInject, S: "\x00\x00\x00"}, api.Told{})
	if e.Way(0) != 12 {
		t.Error("ahead")
	}
}

// P28.3
func TestLooks(t *testing.T) {
	d := made(t)
	d.Do(api.Act{Kind: api.XOpen, N: api.KBytes, Dep: leaf})
	d.Do(api.Act{Kind: api.XOffer, ID: 1, S: "ab"})
	d.Do(api.Act{Kind: api.XStep})
	sent := []api.Move{{What: api.MSent, Stream: 1, N: 2, S: "ab"}}
	if !slices.Equal(d.Moves(0), sent) || len(d.Moves(1)) != 0 {
		t.Error(d.Moves(0))
	}
	for _, k := range []int{api.XTick, api.XInject, 99} {
		d.Do(api.Act{Kind: k})
		if len(d.Moves(0))+len(d.Moves(1)) != 0 {
			t.Error("nothing happened", k)
		}
	}
	d.Do(api.Act{Kind: api.XDeliver, Side: 1, N: 900})
	if l := d.Moves(1); !slices.Equal(l, []api.Move{{What: api.MOpened, Stream: 1, N: 1}, {What: api.MCame, Stream: 1, N: 2, S: "ab"}}) || len(d.Moves(0)) != 0 {
		t.Error(l)
	}
	d.Do(api.Act{Kind: api.XOffer, Side: 0, ID: 1})
	if len(d.Moves(0))+len(d.Moves(1)) != 0 {
		t.Error("the other side did nothing")
	}
	var none *Duplex
	if d.Conn(-1) != nil || d.Conn(2) != nil || d.Way(2) != 0 || len(d.Moves(-1)) != 0 || none.Conn(0) != nil || none.Way(0) != 0 || len(none.Moves(0)) != 0 {
		t.Error("no such side, nil")
	}
}

// random: acts, as anybody may do; none of them ticks or injects.
func random(r *rand.Rand) api.Act {
	kinds := []int{1, 2, 2, 2, 3, 4, 4, 5, 5, 6, 6, 7, 8, 10, 11, 11, 11, 12, 12, 12}
	return api.Act{
		Kind: kinds[r.Intn(len(kinds))], Side: r.Intn(2), ID: 1 + r.Intn(6), N: 1 + r.Intn(90), Code: r.Intn(3), S: strings.Repeat(strconv.Itoa(r.Intn(9)), r.Intn(50)),
		Dep: api.Dep{On: r.Intn(7), Weight: 1 + r.Intn(256)}, Settings: api.Settings{Window: r.Intn(99), Streams: 8, Items: r.Intn(5)},
	}
}

// P28.4, P28.5
func TestAgain(t *testing.T) {
	r := rand.New(rand.NewSource(1))
	for range 60 {
		a, b := made(t), made(t)
		for range 300 {
			act := random(r)
			if act.Kind == api.XOpen {
				act.N = 1 + act.N%2
			}
			x, y := a.Do(act), b.Do(act)
			if x != y || !slices.Equal(a.Moves(act.Side), b.Moves(act.Side)) || a.Way(0) != b.Way(0) || a.Conn(act.Side).Status() != b.Conn(act.Side).Status() {
				t.Fatal("not the same", act, x, y)
			}
			// without floods: what waits is sent before it is too much.
			for side := range 2 {
				if a.Conn(side).Queue().Room() < 32 {
					a.Do(api.Act{Kind: api.XStep, Side: side})
					b.Do(api.Act{Kind: api.XStep, Side: side})
				}
				if st := a.Conn(side).Status(); st.Closed && st.Code != api.NoError {
					t.Fatal("closed", st)
				}
			}
		}
	}
}
