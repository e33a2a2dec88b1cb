package ring

import (
	"math/rand"
	"strings"
	"testing"

	"paternoster/api"
)

func made(t *testing.T, n int) *Ring {
	r, e := New(n)
	if e != api.OK || r.Cap() != n || r.Len() != 0 || r.Room() != n {
		t.Fatal(n, int(e))
	}
	return r
}

// P9.1
func TestNew(t *testing.T) {
	made(t, 0)
	made(t, api.MaxConn)
	for _, n := range []int{-1, api.MaxConn + 1, 1<<63 - 1} {
		if r, e := New(n); r != nil || e != api.ErrRange {
			t.Error(n)
		}
	}
}

// P9.2
func TestWriteRead(t *testing.T) {
	r := made(t, 4)
	if r.Write("abcdef") != 4 || r.Write("x") != 0 || r.Read(2) != "ab" || r.Write("gh") != 2 || r.Peek(9) != "cdgh" || r.Len() != 4 || r.Read(9) != "cdgh" || r.Len() != 0 {
		t.Error("around")
	}
	r.Write("abcd")
	if r.Read(-1) != "" || r.Peek(-1) != "" || r.Drop(-1) != 0 || r.Read(0) != "" || r.Len() != 4 {
		t.Error("none")
	}
	if r.Peek(2) != "ab" || r.Drop(3) != 3 || r.Peek(1<<63-1) != "d" || r.Drop(1<<63-1) != 1 || r.Drop(1) != 0 || r.Read(-1<<63) != "" {
		t.Error("drop")
	}
	nought := made(t, 0)
	if nought.Write("a") != 0 || nought.Read(1) != "" || nought.Drop(1) != 0 || nought.Clear() != 0 {
		t.Error("no room")
	}
}

// P9.3
func TestLooks(t *testing.T) {
	r := made(t, 5)
	r.Write("abc")
	if r.Len() != 3 || r.Cap() != 5 || r.Room() != 2 {
		t.Error("looks")
	}
	c := r.Copy()
	r.Write("de")
	if r.Clear() != 5 || r.Len() != 0 || r.Room() != 5 || c.Read(9) != "abc" || c.Cap() != 5 || r.Read(9) != "" {
		t.Error("clear, copy")
	}
	var none *Ring
	if none.Write("a") != 0 || none.Read(1) != "" || none.Peek(1) != "" || none.Drop(1) != 0 || none.Len() != 0 || none.Room() != 0 || none.Cap() != 0 || none.Clear() != 0 || none.Copy() != nil {
		t.Error("nil")
	}
}

// P9.4, P9.5
func TestOrder(t *testing.T) {
	q := rand.New(rand.NewSource(1))
	for range 200 {
		r := made(t, q.Intn(12))
		there := ""
		for range 80 {
			n := q.Intn(9) - 1
			switch q.Intn(6) {
			case 0, 1:
				s := strings.Repeat(string([]byte{byte('a' + q.Intn(26))}), max(n, 0)) + "."
				k := r.Write(s)
				if k != min(len(s), r.Cap()-len(there)) {
					t.Fatal("accepted", k)
				}
				there += s[:k]
			case 2, 3:
				s := r.Read(n)
				if s != there[:max(min(n, len(there)), 0)] {
					t.Fatal("read", s, there)
				}
				there = there[len(s):]
			case 4:
				there = there[r.Drop(n):]
			case 5:
				if q.Intn(9) == 0 {
					there = there[r.Clear():]
				}
				r = r.Copy()
			}
			if r.Peek(99) != there || r.Len() != len(there) || r.Len() > r.Cap() || r.Room() != r.Cap()-r.Len() {
				t.Fatal(r.Peek(99), there)
			}
		}
	}
}
