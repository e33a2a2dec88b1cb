package outq

import (
	"math/rand"
	"slices"
	"testing"

	"paternoster/api"
	"paternoster/frame"
)

func window(id, n int) api.Frame  { return api.Frame{Type: api.FWindow, Stream: id, N: n} }
func request(id, n int) api.Frame { return api.Frame{Type: api.FRequest, Stream: id, N: n} }

func next(t *testing.T, q *Queue, want api.Frame) {
	t.Helper()
	if f, ok := q.Next(); !ok || !frame.Same(f, want) {
		t.Error(f, ok)
	}
}

// P25.1
func TestPush(t *testing.T) {
	q := New()
	for i, c := range []struct {
		f    api.Frame
		want api.Errno
	}{
		{api.Frame{Type: 99}, api.ErrArg}, {api.Frame{Type: api.FData}, api.ErrArg}, {api.Frame{Type: api.FData, Stream: 1}, api.ErrKind}, {api.Frame{Type: api.FItem, Stream: 1}, api.ErrKind},
		{window(3, 5), api.OK}, {api.Frame{Type: api.FAck}, api.OK}, {window(3, 2), api.OK}, {request(3, 1), api.OK}, {window(0, 1), api.OK}, {api.Frame{Type: api.FAck}, api.OK},
		{window(3, api.MaxWindow-6), api.OK}, {window(3, api.MaxWindow-7), api.OK}, {window(3, 1), api.OK}, {window(3, -1), api.ErrArg},
	} {
		if e := q.Push(c.f); e != c.want {
			t.Error(i, int(e))
		}
	}
	next(t, q, window(3, api.MaxWindow))
	next(t, q, api.Frame{Type: api.FAck})
	next(t, q, request(3, 1))
	next(t, q, window(0, 1))
	next(t, q, api.Frame{Type: api.FAck})
	next(t, q, window(3, api.MaxWindow-5))
	if q.Len() != 0 || (*Queue)(nil).Push(api.Frame{Type: 99}) != api.ErrNil {
		t.Error("none left, nil")
	}
	for i := range 64 {
		if e := q.Push(window(i, 1)); e != api.OK || q.Room() != 63-i {
			t.Error(i, int(e))
		}
	}
	if q.Push(window(64, 1)) != api.ErrFull || q.Push(api.Frame{Type: api.FAck}) != api.ErrFull || q.Push(window(7, 4)) != api.OK || q.Len() != 64 || q.Push(window(64, -1)) != api.ErrArg {
		t.Error("full")
	}
	q.Next()
	if q.Push(api.Frame{Type: api.FAck}) != api.OK {
		t.Error("room again")
	}
}

// P25.1
func TestOwn(t *testing.T) {
	q := New()
	l := []api.Param{{ID: 1, Value: 2}}
	q.Push(api.Frame{Type: api.FSettings, Params: l})
	l[0].Value = 9
	next(t, q, api.Frame{Type: api.FSettings, Params: []api.Param{{ID: 1, Value: 2}}})
}

// P25.2, P25.3
func TestNextLooks(t *testing.T) {
	q := New()
	if f, ok := q.Next(); ok || !frame.Same(f, api.Frame{}) || len(q.Types()) != 0 || q.Room() != 64 || q.Clear() != 0 {
		t.Error("none")
	}
	q.Push(window(3, 5))
	q.Push(api.Frame{Type: api.FAck})
	q.Push(window(3, 2))
	if !slices.Equal(q.Types(), []int{api.FWindow, api.FAck}) || q.Len() != 2 || q.Room() != 62 {
		t.Error(q.Types())
	}
	next(t, q, window(3, 7))
	q.Push(window(3, 1))
	if q.Clear() != 2 || q.Len() != 0 || q.Room() != 64 {
		t.Error("clear")
	}
	var none *Queue
	if f, ok := none.Next(); ok || !frame.Same(f, api.Frame{}) || none.Len() != 0 || none.Room() != 0 || none.Clear() != 0 || len(none.Types()) != 0 {
		t.Error("nil")
	}
}

// P25.4
func TestOrder(t *testing.T) {
	r := rand.New(rand.NewSource(1))
	for range 100 {
		q := New()
		in, out := map[[2]int]int{}, map[[2]int]int{}
		var resets, told []int
		take := func() {
			f, ok := q.Next()
			if ok && f.Type == api.FReset {
				told = append(told, f.Code)
			} else if ok {
				out[[2]int{f.Type, f.Stream}] += f.N
			}
		}
		for i := range 200 {
			f := api.Frame{Type: 10 + r.Intn(2), Stream: 1 + r.Intn(6), N: r.Intn(1 << 30)}
			switch r.Intn(4) {
			case 0:
				take()
			case 1:
				if q.Push(api.Frame{Type: api.FReset, Stream: 1, Code: i}) == api.OK {
					resets = append(resets, i)
				}
			default:
				if q.Push(f) == api.OK {
					in[[2]int{f.Type, f.Stream}] += f.N
				}
			}
		}
		for q.Len() > 0 {
			take()
		}
		if !slices.Equal(resets, told) {
			t.Fatal("order", resets, told)
		}
		for k, n := range in {
			if out[k] != n {
				t.Fatal("lost", k, n, out[k])
			}
		}
	}
}
