package tx

import (
	"math/rand"
	"strconv"
	"strings"
	"testing"

	"paternoster/api"
)

func made(t *testing.T, kind, capacity, strategy int) *Tx {
	t.Helper()
	x, e := New(kind, capacity, strategy)
	if e != api.OK || x.Kind() != kind || x.Out() || x.Told() != (Counts{}) || x.Ready(9) || x.Stuck(0) {
		t.Fatal(kind, capacity, int(e))
	}
	return x
}

type taken struct {
	s       string
	end, is bool
}

func take(x *Tx, credit int) taken {
	s, end, is := x.Take(credit)
	return taken{s, end, is}
}

// P22.1
func TestNew(t *testing.T) {
	made(t, api.KBytes, 0, 77)
	made(t, api.KBytes, 4096, -1)
	made(t, api.KItems, 0, 0)
	made(t, api.KItems, 64, 2)
	for i, c := range []struct {
		kind, n, s int
		e          api.Errno
	}{
		{0, -1, 0, api.ErrKind}, {3, 1, 0, api.ErrKind}, {-1, 1, 0, api.ErrKind}, {api.KBytes, -1, 0, api.ErrRange}, {api.KBytes, 4097, 0, api.ErrRange}, {api.KBytes, 1 << 17, 0, api.ErrRange},
		{api.KItems, 65, 9, api.ErrRange}, {api.KItems, -1, 0, api.ErrRange}, {api.KItems, 4, 3, api.ErrArg},
	} {
		if x, e := New(c.kind, c.n, c.s); x != nil || e != c.e {
			t.Error(i, int(e))
		}
	}
}

// P22.2
func TestOfferEnd(t *testing.T) {
	b := made(t, api.KBytes, 4, 0)
	for i, c := range []struct {
		s    string
		want int
	}{{"abc", 3}, {"", 0}, {"def", 1}, {"x", 0}} {
		if n, e := b.Offer(c.s); n != c.want || e != api.OK {
			t.Error(i, n)
		}
	}
	if b.Told() != (Counts{Accepted: 4}) || b.End() != api.OK || b.End() != api.ErrState {
		t.Error("end")
	}
	if n, e := b.Offer("x"); n != 0 || e != api.ErrState {
		t.Error("ended")
	}
	long := strings.Repeat("x", 257)
	for s, verdicts := range [][]int{{1, 1, 0}, {1, 1, 2}, {1, 1, 3}} {
		x := made(t, api.KItems, 2, s)
		for i, want := range verdicts {
			if n, e := x.Offer(long); n != 0 || e != api.ErrBig {
				t.Error("big")
			}
			n, e := x.Offer(long[:256])
			if n != want || want == 0 && e != api.ErrFull || want > 0 && e != api.OK {
				t.Error(s, i, n, int(e))
			}
		}
		x.End()
		if n, e := x.Offer(long); n != 0 || e != api.ErrState || x.End() != api.ErrState {
			t.Error("ended")
		}
		if c := x.Told(); c.Waiting() != 2 || c.Accepted != 2+(s+1)/2 || c.Dropped != (s+1)/2 {
			t.Error(s, c)
		}
	}
	var none *Tx
	if _, e := none.Offer(""); e != api.ErrNil || none.End() != api.ErrNil {
		t.Error("nil")
	}
}

// P22.3
func TestWant(t *testing.T) {
	x := made(t, api.KItems, 2, 0)
	if x.Want(0) != api.ErrArg || x.Want(-1) != api.ErrArg || x.Want(3) != api.OK || x.Wanted() != 3 || x.Want(1<<62) != api.OK || x.Wanted() != api.MaxWindow || x.Want(1) != api.OK {
		t.Error(x.Wanted())
	}
	if made(t, api.KBytes, 2, 0).Want(0) != api.ErrKind || (*Tx)(nil).Want(0) != api.ErrNil {
		t.Error("bytes, nil")
	}
}

// P22.4
func TestReady(t *testing.T) {
	b := made(t, api.KBytes, 9, 0)
	b.Offer("ab")
	if b.Ready(0) || !b.Stuck(0) || b.Ready(-4) || !b.Stuck(-4) || !b.Ready(1) || b.Stuck(1) {
		t.Error("bytes")
	}
	b.End()
	if b.Ready(0) {
		t.Error("bytes ahead of the end")
	}
	b.Take(9)
	if b.Ready(9) || b.Stuck(0) {
		t.Error("the end is out")
	}
	e := made(t, api.KBytes, 9, 0)
	e.End()
	if !e.Ready(0) || !e.Ready(-1) || e.Stuck(0) {
		t.Error("the end alone")
	}
	x := made(t, api.KItems, 9, 0)
	x.Offer("")
	x.End()
	if x.Ready(100) || !x.Stuck(100) {
		t.Error("nothing is wanted")
	}
	x.Want(1)
	if !x.Ready(0) || x.Stuck(0) {
		t.Error("wanted")
	}
	x.Take(0)
	if !x.Ready(0) {
		t.Error("the end")
	}
	x.Take(0)
	if x.Ready(0) {
		t.Error("the end is out")
	}
}

// P22.5
func TestTake(t *testing.T) {
	b := made(t, api.KBytes, 4, 0)
	b.Offer("abcdef")
	b.End()
	if take(b, 0) != (taken{}) || take(b, 3) != (taken{"abc", false, true}) || take(b, 3) != (taken{"d", true, true}) || take(b, 3) != (taken{}) || !b.Out() {
		t.Error("bytes")
	}
	long := made(t, api.KBytes, 4096, 0)
	long.Offer(strings.Repeat("x", 300))
	if take(long, 1<<40) != (taken{strings.Repeat("x", 256), false, true}) || take(long, 44) != (taken{strings.Repeat("x", 44), false, true}) || take(long, 9) != (taken{}) {
		t.Error("at most a frame")
	}
	long.End()
	if take(long, 0) != (taken{"", true, true}) || take(long, 0) != (taken{}) {
		t.Error("the end alone")
	}
	x := made(t, api.KItems, 4, 0)
	x.Offer("a")
	x.Offer("")
	x.Want(5)
	x.End()
	if take(x, 0) != (taken{"a", false, true}) || x.Wanted() != 4 || take(x, 0) != (taken{"", false, true}) || x.Wanted() != 3 || x.Out() || take(x, 0) != (taken{"", true, true}) || x.Wanted() != 3 || !x.Out() || take(x, 0) != (taken{}) {
		t.Error("items")
	}
	if take(nil, 5) != (taken{}) {
		t.Error("nil")
	}
}

// P22.6
func TestLooks(t *testing.T) {
	b := made(t, api.KBytes, 9, 0)
	b.Offer("abcde")
	b.Take(2)
	if b.Told() != (Counts{5, 2, 0}) || b.Told().Waiting() != 3 || b.Clear() != 3 || b.Told() != (Counts{5, 2, 3}) || b.Clear() != 0 || b.Wanted() != 0 {
		t.Error(b.Told())
	}
	b.End()
	if !b.Ready(0) {
		t.Error("nothing waits")
	}
	x := made(t, api.KItems, 2, api.KeepLatest)
	for range 4 {
		x.Offer("q")
	}
	x.Want(1)
	x.Take(0)
	if x.Told() != (Counts{4, 1, 2}) || x.Clear() != 1 || x.Told() != (Counts{4, 1, 3}) || x.Told().Waiting() != 0 {
		t.Error(x.Told())
	}
	var none *Tx
	if none.Clear() != 0 || none.Kind() != 0 || none.Wanted() != 0 || none.Out() || none.Told() != (Counts{}) || none.Ready(1) || none.Stuck(0) {
		t.Error("nil")
	}
}

// P22.7
func TestOrder(t *testing.T) {
	r := rand.New(rand.NewSource(1))
	for round := range 300 {
		kind, strategy := 1+round%2, r.Intn(3)
		x := made(t, kind, r.Intn(20), strategy)
		accepted, sent := "", ""
		for i := range 60 {
			switch r.Intn(3) {
			case 0:
				s := strconv.Itoa(i) + "."
				n, e := x.Offer(s)
				if kind == api.KBytes {
					accepted += s[:n]
				} else if e == api.OK {
					accepted += s
				}
			case 1:
				if kind == api.KItems {
					x.Want(r.Intn(4))
				}
			case 2:
				credit := r.Intn(6)
				s, _, _ := x.Take(credit)
				if kind == api.KBytes && len(s) > credit {
					t.Fatal("more than the credit")
				}
				sent += s
			}
		}
		c := x.Told()
		if c.Waiting() < 0 || kind == api.KBytes && (c.Dropped != 0 || c.Accepted != len(accepted) || c.Sent != len(sent)) {
			t.Fatal(c)
		}
		if (kind == api.KBytes || strategy == api.OnError) && !strings.HasPrefix(accepted, sent) {
			t.Fatal(accepted, sent)
		}
		rest := strings.Split(accepted, ".")
		for _, s := range strings.Split(sent, ".") {
			for len(rest) > 0 && rest[0] != s && kind == api.KItems {
				rest = rest[1:]
			}
			if kind == api.KItems && len(rest) == 0 {
				t.Fatal("order", accepted, sent)
			}
		}
	}
}
