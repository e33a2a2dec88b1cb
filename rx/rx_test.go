package rx

import (
	"math/rand"
	"strconv"
	"strings"
	"testing"

	"paternoster/api"
)

func set(w, items int) api.Settings { return api.Settings{Window: w, Streams: 1, Items: items} }

func made(t *testing.T, kind int, s api.Settings) *Rx {
	t.Helper()
	r, e := New(kind, s)
	if e != api.OK || r.Kind() != kind || r.Kept() != 0 || r.Ended() || r.Done() {
		t.Fatal(kind, s, int(e))
	}
	return r
}

func arrive(t *testing.T, r *Rx, data string, end bool, wrong int, right bool) {
	t.Helper()
	if w, ok := r.Arrive(data, end); w != wrong || ok != right {
		t.Errorf("%q %t: %d %t", data, end, w, ok)
	}
}

// P23.1
func TestNew(t *testing.T) {
	if r := made(t, api.KBytes, set(4096, 0)); r.Open() != 4096 || r.Due() != 0 {
		t.Error("bytes")
	}
	if r := made(t, api.KItems, set(0, 64)); r.Open() != 0 || r.Due() != 0 {
		t.Error("items")
	}
	for i, c := range []struct {
		kind int
		s    api.Settings
		e    api.Errno
	}{{0, set(-1, 0), api.ErrKind}, {3, set(1, 1), api.ErrKind}, {1, set(4097, 0), api.ErrRange}, {2, set(0, 65), api.ErrRange}, {1, set(0, 65), api.ErrRange}} {
		if r, e := New(c.kind, c.s); r != nil || e != c.e {
			t.Error(i)
		}
	}
}

// P23.2
func TestArrive(t *testing.T) {
	b := made(t, api.KBytes, set(5, 0))
	arrive(t, b, "abc", false, 0, true)
	arrive(t, b, "def", true, api.VWindow, false)
	if b.Ended() || b.Kept() != 3 {
		t.Error("nothing has changed")
	}
	arrive(t, b, "", false, 0, true)
	arrive(t, b, "de", true, 0, true)
	arrive(t, b, "", true, api.VEnded, false)
	if b.Kept() != 5 || !b.Ended() || b.Done() {
		t.Error("ended", b.Kept())
	}
	x := made(t, api.KItems, set(0, 2))
	arrive(t, x, "a", false, api.VDemand, false)
	arrive(t, x, "", false, api.VDemand, false)
	x.Ask(5)
	if x.Grant() != 2 || x.Open() != 2 {
		t.Error("grant")
	}
	arrive(t, x, "a", false, 0, true)
	arrive(t, x, "", false, 0, true)
	if x.Open() != 0 || x.Kept() != 2 {
		t.Error("an empty item is one")
	}
	arrive(t, x, "b", true, api.VDemand, false)
	arrive(t, x, "", true, 0, true)
	if x.Kept() != 2 || !x.Ended() {
		t.Error("an end alone is none")
	}
	arrive(t, x, "", true, api.VEnded, false)
	y := made(t, api.KItems, set(0, 2))
	y.Ask(1)
	y.Grant()
	arrive(t, y, "z", true, 0, true)
	if y.Kept() != 1 || !y.Ended() {
		t.Error("an item, and the end")
	}
	arrive(t, nil, "", false, api.VEnded, false)
}

// P23.3
func TestReadItem(t *testing.T) {
	b := made(t, api.KBytes, set(10, 0))
	arrive(t, b, "abcdef", false, 0, true)
	for i, c := range []struct {
		n    int
		want string
	}{{-1, ""}, {0, ""}, {2, "ab"}, {1 << 62, "cdef"}, {1, ""}} {
		if s, e := b.Read(c.n); s != c.want || e != api.OK {
			t.Error(i, s)
		}
	}
	if b.Open() != 4 || b.Due() != 6 {
		t.Error("used", b.Open())
	}
	if s, is, e := b.Item(); s != "" || is || e != api.ErrKind {
		t.Error("bytes")
	}
	x := made(t, api.KItems, set(0, 4))
	x.Ask(2)
	x.Grant()
	arrive(t, x, "p", false, 0, true)
	arrive(t, x, "q", false, 0, true)
	for i, want := range []string{"p", "q", ""} {
		if s, is, e := x.Item(); s != want || is != (i < 2) || e != api.OK {
			t.Error(i, s)
		}
	}
	if s, e := x.Read(1); s != "" || e != api.ErrKind {
		t.Error("items")
	}
	var none *Rx
	if _, e := none.Read(1); e != api.ErrNil {
		t.Error("nil")
	}
	if _, is, e := none.Item(); is || e != api.ErrNil {
		t.Error("nil")
	}
}

// P23.4
func TestGrant(t *testing.T) {
	x := made(t, api.KItems, set(0, 2))
	if x.Ask(0) != api.ErrArg || x.Ask(-1) != api.ErrArg || x.Ask(5) != api.OK || x.Due() != 2 || x.Grant() != 2 || x.Due() != 0 || x.Grant() != 0 {
		t.Error("ask")
	}
	arrive(t, x, "a", false, 0, true)
	arrive(t, x, "b", false, 0, true)
	if x.Grant() != 0 {
		t.Error("no room")
	}
	x.Item()
	if x.Grant() != 1 || x.Open() != 1 {
		t.Error("room of one")
	}
	x.Item()
	arrive(t, x, "c", false, 0, true)
	x.Item()
	if x.Due() != 2 || x.Grant() != 2 || x.Due() != 0 {
		t.Error("the rest", x.Due())
	}
	for range 2 {
		arrive(t, x, "d", false, 0, true)
		x.Item()
	}
	if x.Due() != 0 || x.Grant() != 0 || x.Open() != 0 {
		t.Error("no more was asked for", x.Due())
	}
	far := made(t, api.KItems, set(0, 64))
	if far.Ask(1<<62) != api.OK || far.Ask(1<<62) != api.OK || far.Grant() != 64 {
		t.Error("the limit")
	}
	b := made(t, api.KBytes, set(10, 0))
	arrive(t, b, "123456", false, 0, true)
	b.Read(4)
	if b.Due() != 0 || b.Grant() != 0 {
		t.Error("below half")
	}
	b.Read(1)
	if b.Due() != 5 || b.Grant() != 5 || b.Open() != 10 || b.Ask(1) != api.ErrKind {
		t.Error("half")
	}
	var none *Rx
	if none.Ask(0) != api.ErrNil || none.Due() != 0 || none.Grant() != 0 {
		t.Error("nil")
	}
}

// P23.5
func TestResize(t *testing.T) {
	b := made(t, api.KBytes, set(10, 0))
	if b.Resize(set(4097, 0)) != api.ErrRange || b.Resize(set(0, 65)) != api.ErrRange || b.Open() != 10 {
		t.Error("wrong ones")
	}
	arrive(t, b, "12345678", false, 0, true)
	if b.Resize(set(4, 0)) != api.OK || b.Open() != 4 {
		t.Error(b.Open())
	}
	arrive(t, b, "1", false, api.VWindow, false)
	arrive(t, b, "", false, 0, true)
	if s, _ := b.Read(9); s != "12345678" || b.Open() != -4 || b.Due() != 8 {
		t.Error(b.Open(), b.Due())
	}
	x := made(t, api.KItems, set(0, 4))
	x.Ask(9)
	x.Grant()
	if x.Resize(set(0, 2)) != api.OK || x.Open() != 4 || x.Due() != 0 {
		t.Error("room below what is open")
	}
	if x.Resize(set(0, 7)) != api.OK || x.Due() != 3 || (*Rx)(nil).Resize(set(-1, 0)) != api.ErrNil {
		t.Error("room", x.Due())
	}
}

// P23.6
func TestLooks(t *testing.T) {
	b := made(t, api.KBytes, set(10, 0))
	arrive(t, b, "123456", true, 0, true)
	if b.Done() || b.Clear() != 6 || b.Kept() != 0 || b.Open() != 4 || !b.Done() || b.Clear() != 0 {
		t.Error("bytes")
	}
	x := made(t, api.KItems, set(0, 4))
	x.Ask(4)
	x.Grant()
	arrive(t, x, "1", false, 0, true)
	arrive(t, x, "2", false, 0, true)
	if x.Kept() != 2 || x.Clear() != 2 || x.Kept() != 0 || x.Open() != 2 || x.Done() {
		t.Error("items")
	}
	var none *Rx
	if none.Clear() != 0 || none.Kept() != 0 || none.Open() != 0 || !none.Ended() || !none.Done() || none.Kind() != 0 {
		t.Error("nil")
	}
}

// P23.7, P23.8
func TestBounded(t *testing.T) {
	q := rand.New(rand.NewSource(1))
	for round := range 300 {
		kind := 1 + round%2
		s := set(q.Intn(20), q.Intn(8))
		r := made(t, kind, s)
		most := max(s.Window*(2-kind), s.Items*(kind-1))
		came, read := "", ""
		for i := range 80 {
			switch q.Intn(6) {
			case 0, 1:
				data := strconv.Itoa(i) + "."
				if _, ok := r.Arrive(data, false); ok {
					came += data
				}
			case 2, 3:
				if kind == api.KBytes {
					x, _ := r.Read(q.Intn(9))
					read += x
				} else {
					x, _, _ := r.Item()
					read += x
				}
			case 4:
				r.Ask(q.Intn(5))
				r.Grant()
			case 5:
				s = set(q.Intn(20), q.Intn(8))
				r.Resize(s)
				most = max(most, s.Window*(2-kind), s.Items*(kind-1))
			}
			if !strings.HasPrefix(came, read) {
				t.Fatal("order")
			}
			if kind == api.KBytes && (r.Kept() > most || r.Kept() != len(came)-len(read)) || kind == api.KItems && r.Kept()+r.Open() > most {
				t.Fatal("more than may be", r.Kept(), r.Open(), most)
			}
		}
	}
}
