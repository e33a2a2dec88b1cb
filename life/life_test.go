package life

import (
	"math/rand"
	"testing"

	"paternoster/api"
)

// want: of each state and event the state behind it, -1 for none.
var want = [5][6]int{
	{1, 1, -1, -1, -1, -1},
	{-1, -1, 2, 3, 4, 4},
	{-1, -1, -1, 4, 4, 4},
	{-1, -1, 4, -1, 4, 4},
	{-1, -1, -1, -1, -1, -1},
}

// P12.1
func TestNext(t *testing.T) {
	if Idle != 0 || Open != 1 || HalfLocal != 2 || HalfRemote != 3 || Closed != 4 || SendOpen != 0 || RecvOpen != 1 || SendEnd != 2 || RecvEnd != 3 || SendReset != 4 || RecvReset != 5 {
		t.Error("constants")
	}
	for s := -2; s < 8; s++ {
		for ev := -2; ev < 9; ev++ {
			n, e := Next(s, ev)
			switch {
			case s < 0 || s > 4 || ev < 0 || ev > 5:
				if n != 0 || e != api.ErrArg {
					t.Error(s, ev, n)
				}
			case want[s][ev] < 0:
				if n != 0 || e != api.ErrState {
					t.Error(s, ev, n)
				}
			default:
				if n != want[s][ev] || e != api.OK {
					t.Error(s, ev, n)
				}
			}
		}
	}
}

// P12.2
func TestLife(t *testing.T) {
	paths := [][]int{{}, {SendOpen}, {RecvOpen, SendEnd}, {RecvOpen, RecvEnd}, {SendOpen, SendEnd, RecvEnd}}
	for s, path := range paths {
		l := New()
		for _, ev := range path {
			if e := l.Event(ev); e != api.OK {
				t.Error(s, int(e))
			}
		}
		if l.State() != s || l.MaySend() != (s == Open || s == HalfRemote) || l.MayRecv() != (s == Open || s == HalfLocal) || l.Done() != (s == Closed) {
			t.Error(s, l.State())
		}
		for ev := -1; ev < 7; ev++ {
			if _, e := Next(s, ev); e != api.OK && (l.Event(ev) != e || l.State() != s) {
				t.Error(s, ev, "changed")
			}
		}
	}
	var none *Life
	if none.Event(-1) != api.ErrNil || none.State() != Closed || none.MaySend() || none.MayRecv() || !none.Done() {
		t.Error("nil")
	}
}

// P12.3, P12.4
func TestSides(t *testing.T) {
	r := rand.New(rand.NewSource(1))
	for range 2000 {
		l := [2]*Life{New(), New()}
		var way [2][]int
		events := [2]int{1, 0}
		l[0].Event(SendOpen)
		way[1] = append(way[1], RecvOpen)
		send := func(side, ev int) {
			if l[side].Event(ev) == api.OK {
				events[side]++
				way[1-side] = append(way[1-side], ev+1)
			}
		}
		recv := func(side int) {
			if len(way[side]) > 0 {
				if l[side].Event(way[side][0]) == api.OK {
					events[side]++
				}
				way[side] = way[side][1:]
			}
		}
		for range r.Intn(12) {
			side := r.Intn(2)
			if r.Intn(2) == 0 {
				recv(side)
			} else if l[side].State() != Idle {
				send(side, SendEnd+2*(r.Intn(5)/4))
			}
		}
		for len(way[0])+len(way[1]) > 0 {
			recv(r.Intn(2))
		}
		a, b := l[0].State(), l[1].State()
		if !(a == b && (a == Open || a == Closed) || a == HalfLocal && b == HalfRemote || a == HalfRemote && b == HalfLocal) || events[0] > 4 || events[1] > 4 {
			t.Fatal(a, b, events)
		}
	}
}
