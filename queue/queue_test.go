package queue

import (
	"math/rand"
	"slices"
	"strconv"
	"testing"

	"paternoster/api"
)

func made(t *testing.T, n, strategy int) *Queue {
	q, e := New(n, strategy)
	if e != api.OK || q.Len() != 0 || q.Full() != (n == 0) {
		t.Fatal(n, int(e))
	}
	return q
}

func counts(q *Queue) [3]int {
	a, b, c := q.Counts()
	return [3]int{a, b, c}
}

// P10.1
func TestNew(t *testing.T) {
	if Refused != 0 || Kept != 1 || Dropped != 2 || Pushed != 3 {
		t.Error("verdicts")
	}
	made(t, 0, 0)
	made(t, 64, 2)
	for i, c := range []struct {
		n, s int
		e    api.Errno
	}{{-1, 0, api.ErrRange}, {65, 0, api.ErrRange}, {65, 9, api.ErrRange}, {4, -1, api.ErrArg}, {4, 3, api.ErrArg}} {
		if q, e := New(c.n, c.s); q != nil || e != c.e {
			t.Error(i)
		}
	}
}

// P10.2
func TestPut(t *testing.T) {
	for i, c := range []struct {
		n, s   int
		puts   []int
		items  []string
		counts [3]int
	}{
		{2, api.OnError, []int{Kept, Kept, Refused, Refused}, []string{"0", "1"}, [3]int{2, 0, 0}},
		{2, api.DropNewest, []int{Kept, Kept, Dropped, Dropped}, []string{"0", "1"}, [3]int{4, 0, 2}},
		{2, api.KeepLatest, []int{Kept, Kept, Pushed, Pushed}, []string{"2", "3"}, [3]int{4, 0, 2}},
		{0, api.OnError, []int{Refused}, nil, [3]int{0, 0, 0}},
		{0, api.DropNewest, []int{Dropped}, nil, [3]int{1, 0, 1}},
		{0, api.KeepLatest, []int{Dropped, Dropped}, nil, [3]int{2, 0, 2}},
	} {
		q := made(t, c.n, c.s)
		for k, want := range c.puts {
			if v := q.Put(strconv.Itoa(k)); v != want {
				t.Error(i, k, v)
			}
		}
		if !slices.Equal(q.Items(), c.items) || counts(q) != c.counts {
			t.Error(i, q.Items(), counts(q))
		}
	}
	if (*Queue)(nil).Put("a") != Refused {
		t.Error("nil")
	}
}

// P10.3
func TestTake(t *testing.T) {
	q := made(t, 2, api.KeepLatest)
	if s, ok := q.Take(); s != "" || ok {
		t.Error("none")
	}
	if s, ok := q.First(); s != "" || ok {
		t.Error("none")
	}
	q.Put("a")
	q.Put("b")
	q.Put("c")
	if s, ok := q.First(); s != "b" || !ok || q.Len() != 2 {
		t.Error("first", s)
	}
	if s, ok := q.Take(); s != "b" || !ok || q.Len() != 1 || q.Full() {
		t.Error("take", s)
	}
	q.Put("")
	if q.Clear() != 2 || q.Len() != 0 || q.Clear() != 0 || counts(q) != [3]int{4, 1, 3} {
		t.Error("clear", counts(q))
	}
	q.Put("")
	if s, ok := q.Take(); s != "" || !ok {
		t.Error("an empty item is one")
	}
}

// P10.4
func TestLooks(t *testing.T) {
	q := made(t, 3, api.DropNewest)
	q.Put("a")
	q.Put("b")
	c := q.Copy()
	l := q.Items()
	l[0] = "z"
	q.Put("c")
	q.Take()
	if !slices.Equal(c.Items(), []string{"a", "b"}) || counts(c) != [3]int{2, 0, 0} || !slices.Equal(q.Items(), []string{"b", "c"}) {
		t.Error(c.Items(), q.Items())
	}
	c.Put("x")
	if !c.Full() || c.Put("y") != Dropped || !slices.Equal(q.Items(), []string{"b", "c"}) {
		t.Error("copy")
	}
	var none *Queue
	if s, ok := none.Take(); s != "" || ok {
		t.Error("nil")
	}
	if s, ok := none.First(); s != "" || ok || none.Clear() != 0 || none.Len() != 0 || none.Full() || counts(none) != [3]int{} || len(none.Items()) != 0 || none.Copy() != nil {
		t.Error("nil")
	}
}

// P10.5, P10.6
func TestOrder(t *testing.T) {
	r := rand.New(rand.NewSource(1))
	for round := range 300 {
		strategy := round % 3
		q := made(t, r.Intn(6), strategy)
		room := 0
		if q.Full() {
			room = 0
		} else {
			c := q.Copy()
			for c.Put("") == Kept {
				room++
			}
		}
		var accepted, got []string
		for i := range 60 {
			if r.Intn(3) > 0 {
				if q.Put(strconv.Itoa(i)) != Refused {
					accepted = append(accepted, strconv.Itoa(i))
				}
			} else if s, ok := q.Take(); ok {
				got = append(got, s)
			}
			n := counts(q)
			if n[0] != n[1]+n[2]+q.Len() || q.Len() > room || n[0] != len(accepted) || n[1] != len(got) {
				t.Fatal(n, q.Len())
			}
			if strategy == api.KeepLatest && !slices.Equal(q.Items(), accepted[len(accepted)-q.Len():]) {
				t.Fatal("not the latest", q.Items(), accepted)
			}
		}
		all := append(got, q.Items()...)
		if strategy == api.OnError && !slices.Equal(all, accepted) {
			t.Fatal("not all")
		}
		k := 0
		for _, s := range accepted {
			if k < len(all) && all[k] == s {
				k++
			}
		}
		if k != len(all) {
			t.Fatal("order", all, accepted)
		}
	}
}
