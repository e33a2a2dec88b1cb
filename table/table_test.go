package table

import (
	"math/rand"
	"slices"
	"sort"
	"testing"

	"paternoster/api"
)

func made(t *testing.T, n int) *Table[string] {
	x, e := New[string](n)
	if e != api.OK || x.Len() != 0 {
		t.Fatal(n, int(e))
	}
	return x
}

// P13.1
func TestPutSet(t *testing.T) {
	made(t, 1024)
	made(t, 1)
	for _, n := range []int{0, -1, 1025} {
		if x, e := New[int](n); x != nil || e != api.ErrArg {
			t.Error(n)
		}
	}
	x := made(t, 2)
	for i, c := range []struct{ got, want api.Errno }{
		{x.Put(5, "a"), api.OK}, {x.Put(5, "b"), api.ErrExist}, {x.Put(-2, "c"), api.OK}, {x.Put(5, "d"), api.ErrExist}, {x.Put(6, "e"), api.ErrLimit},
		{x.Set(6, "f"), api.ErrNone}, {x.Set(-2, "g"), api.OK},
	} {
		if c.got != c.want {
			t.Error(i, int(c.got))
		}
	}
	if v, ok := x.Get(5); v != "a" || !ok {
		t.Error("get", v)
	}
	if v, ok := x.Get(-2); v != "g" || !ok {
		t.Error("get", v)
	}
	var none *Table[string]
	if none.Put(1, "") != api.ErrNil || none.Set(1, "") != api.ErrNil {
		t.Error("nil")
	}
}

// P13.2
func TestGetDelAt(t *testing.T) {
	x := made(t, 9)
	x.Put(5, "five")
	x.Put(2, "two")
	x.Put(8, "eight")
	if v, ok := x.Get(3); v != "" || ok {
		t.Error("none")
	}
	for i, want := range []string{"two", "five", "eight"} {
		if id, v, ok := x.At(i); v != want || !ok || id != 2+3*i {
			t.Error(i, id, v)
		}
	}
	for _, i := range []int{-1, 3, 1 << 40} {
		if id, v, ok := x.At(i); id != 0 || v != "" || ok {
			t.Error(i)
		}
	}
	if v, ok := x.Del(5); v != "five" || !ok || !slices.Equal(x.IDs(), []int{2, 8}) {
		t.Error("del", v)
	}
	if v, ok := x.Del(5); v != "" || ok || x.Len() != 2 {
		t.Error("del twice")
	}
	if _, v, _ := x.At(1); v != "eight" {
		t.Error("moved", v)
	}
	var none *Table[string]
	if v, ok := none.Get(1); v != "" || ok {
		t.Error("nil")
	}
	if v, ok := none.Del(1); v != "" || ok {
		t.Error("nil")
	}
	if id, v, ok := none.At(0); id != 0 || v != "" || ok {
		t.Error("nil")
	}
}

// P13.3
func TestLooks(t *testing.T) {
	x := made(t, 9)
	if a, b, ok := Ends(x); a != 0 || b != 0 || ok {
		t.Error("none")
	}
	for _, id := range []int{7, -3, 0, 12} {
		x.Put(id, "")
	}
	if a, b, ok := Ends(x); a != -3 || b != 12 || !ok || x.Len() != 4 || !slices.Equal(x.IDs(), []int{-3, 0, 7, 12}) {
		t.Error(a, b, x.IDs())
	}
	ids := x.IDs()
	ids[0] = 99
	if x.Drop() != 0 || x.Drop(0, 5, 0, 12) != 2 || !slices.Equal(x.IDs(), []int{-3, 7}) {
		t.Error("drop", x.IDs())
	}
	var none *Table[string]
	if a, b, ok := Ends(none); a != 0 || b != 0 || ok || none.Len() != 0 || len(none.IDs()) != 0 || none.Drop(1, 2) != 0 {
		t.Error("nil")
	}
}

// P13.4
func TestOrder(t *testing.T) {
	r := rand.New(rand.NewSource(1))
	for range 100 {
		x, _ := New[int](1 + r.Intn(20))
		most := 0
		want := map[int]int{}
		for i := range 100 {
			id := r.Intn(40) - 20
			switch r.Intn(4) {
			case 0, 1:
				if x.Put(id, i) == api.OK {
					want[id] = i
				}
			case 2:
				if x.Set(id, i) == api.OK {
					want[id] = i
				}
			case 3:
				x.Del(id)
				delete(want, id)
			}
			most = max(most, x.Len())
			ids := x.IDs()
			if !sort.IntsAreSorted(ids) || len(ids) != len(want) {
				t.Fatal(ids)
			}
			for k, id := range ids {
				if v, ok := x.Get(id); !ok || v != want[id] || k > 0 && ids[k-1] == id {
					t.Fatal(id, v)
				}
			}
		}
	}
}
