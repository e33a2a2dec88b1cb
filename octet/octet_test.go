package octet

import (
	"math/rand"
	"strings"
	"testing"

	"paternoster/api"
)

// P1.1
func TestLay(t *testing.T) {
	long := strings.Repeat("x", api.MaxText)
	for i, c := range []struct {
		l    []Piece
		want string
		e    api.Errno
	}{
		{nil, "", api.OK},
		{[]Piece{U(258, 3), T("a")}, "\x00\x01\x02a", api.OK},
		{[]Piece{U(0, 1), U(255, 1), U(1<<32-1, 4)}, "\x00\xff\xff\xff\xff\xff", api.OK},
		{[]Piece{{N: -5, S: "ab"}, {N: 7, Width: 1, S: "no"}}, "ab\x07", api.OK},
		{[]Piece{U(256, 1)}, "", api.ErrRange},
		{[]Piece{U(1<<32, 4)}, "", api.ErrRange},
		{[]Piece{U(-1, 2)}, "", api.ErrRange},
		{[]Piece{U(1, 5)}, "", api.ErrArg},
		{[]Piece{U(1, -1)}, "", api.ErrArg},
		{[]Piece{U(-1, 1), U(1, 5)}, "", api.ErrRange},
		{[]Piece{U(1, 5), U(-1, 1)}, "", api.ErrArg},
		{[]Piece{T(long)}, long, api.OK},
		{[]Piece{T(long), U(1, 1)}, "", api.ErrBig},
		{[]Piece{T(long), T("y"), U(1, 9)}, "", api.ErrArg},
	} {
		if s, e := Lay(c.l...); s != c.want || e != c.e {
			t.Errorf("%d: %q %d", i, s, int(e))
		}
	}
}

// P1.1
func TestSize(t *testing.T) {
	for i, c := range []struct {
		l    []Piece
		want int
	}{
		{nil, 0},
		{[]Piece{T("xyz"), U(0, 3)}, 6},
		{[]Piece{{Width: 5, S: "abc"}, {Width: -1, S: "abc"}, T("q")}, 1},
		{[]Piece{T(strings.Repeat("x", 4096))}, 4096},
		{[]Piece{T(strings.Repeat("x", 4096)), U(1, 1)}, 4097},
		{[]Piece{T(strings.Repeat("x", 9000)), T(strings.Repeat("x", 9000))}, 4097},
	} {
		if n := Size(c.l...); n != c.want {
			t.Errorf("%d: %d", i, n)
		}
	}
}

// P1.2
func TestScan(t *testing.T) {
	x := Over("\x01\x00\x01\x02abcd")
	if x.U(1) != 1 || x.U(3) != 258 || x.Take(2) != "ab" || x.Left() != 2 || x.End() != api.ErrForm || x.Bad() {
		t.Error("reading")
	}
	if x.Take(0) != "" || x.Bad() || x.Rest() != "cd" || x.Left() != 0 || x.End() != api.OK || x.Rest() != "" || x.Bad() {
		t.Error("rest")
	}
	for i, spoil := range []func(x *Scan){
		func(x *Scan) { x.U(0) }, func(x *Scan) { x.U(5) }, func(x *Scan) { x.U(-1) }, func(x *Scan) { x.U(4) },
		func(x *Scan) { x.Take(-1) }, func(x *Scan) { x.Take(4) },
	} {
		x := Over("abc")
		spoil(x)
		if !x.Bad() || x.U(1) != 0 || x.Take(1) != "" || x.Rest() != "" || x.Left() != 3 || x.End() != api.ErrShort {
			t.Error(i, "spoiled")
		}
	}
	if Over("\xff\xff\xff\xff").U(4) != 1<<32-1 {
		t.Error("greatest")
	}
	var none *Scan
	if none.U(1) != 0 || none.Take(1) != "" || none.Rest() != "" || none.Left() != 0 || !none.Bad() || none.End() != api.ErrNil {
		t.Error("nil")
	}
}

// P1.3
func TestBack(t *testing.T) {
	r := rand.New(rand.NewSource(1))
	for range 300 {
		var l []Piece
		for range r.Intn(9) {
			if w := r.Intn(5); w > 0 {
				l = append(l, U(r.Intn(1<<(8*w)), w))
			} else {
				l = append(l, T(strings.Repeat("q\x00", r.Intn(5))))
			}
		}
		s, e := Lay(l...)
		if e != api.OK || len(s) != Size(l...) {
			t.Fatal(int(e))
		}
		x := Over(s)
		for _, p := range l {
			if p.Width > 0 && x.U(p.Width) != p.N || p.Width == 0 && x.Take(len(p.S)) != p.S {
				t.Fatal(l)
			}
		}
		if x.End() != api.OK {
			t.Fatal(l)
		}
	}
}

// P1.4
func TestOrder(t *testing.T) {
	r := rand.New(rand.NewSource(2))
	for range 500 {
		w := 1 + r.Intn(4)
		a, b := r.Intn(1<<(8*w)), r.Intn(1<<(8*w))
		x, _ := Lay(U(a, w))
		y, _ := Lay(U(b, w))
		if (a < b) != (x < y) || (a == b) != (x == y) {
			t.Fatal(a, b, w)
		}
	}
}
