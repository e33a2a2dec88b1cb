package tally

import (
	"math/rand"
	"slices"
	"testing"

	"paternoster/api"
)

// P35.1
func TestOf(t *testing.T) {
	if l := Of([]api.Move{{What: api.MSent, Stream: 3, N: 2}, {What: api.MSent, Stream: 3, N: 5, End: true}}); !slices.Equal(l, []api.Sum{{Stream: 3, Sent: 7, Moves: 2, Out: true}}) {
		t.Error(l)
	}
	l := Of([]api.Move{
		{What: api.MCame, Stream: 5, N: 4}, {What: api.MOpened, Stream: -2, N: 9, End: true}, {What: api.MCame, Stream: 5, N: -4, End: true}, {What: api.MSent, Stream: 5, N: 1<<40 + 1}, {What: api.MSent, Stream: 0, N: 1 << 40},
		{What: api.MDone, Stream: 5, N: 8, End: true}, {What: api.MDone, Stream: 5}, {What: 77, Stream: 9, N: 3, End: true}, {What: -1 << 63, Stream: 5, N: 3, End: true}, {What: api.MCame, Stream: 5, N: -1 << 63},
	})
	want := []api.Sum{{Stream: -2, Moves: 1, Opened: 1}, {Sent: 1 << 40, Moves: 1}, {Stream: 5, Came: 4, Moves: 7, In: true, Done: 2}, {Stream: 9, Moves: 1}}
	if !slices.Equal(l, want) || len(Of(nil)) != 0 {
		t.Error(l)
	}
}

// P35.2
func TestAdd(t *testing.T) {
	a := []api.Sum{{Stream: 3, Sent: 1, Came: 2, Moves: 3, Out: true, Opened: 1}, {}, {Stream: 3, Sent: 10, Done: 2}}
	b := []api.Sum{{Stream: 1, Came: 5}, {Stream: 3, Came: 100, In: true, Moves: 1}, {}}
	want := []api.Sum{{}, {Stream: 1, Came: 5}, {Stream: 3, Sent: 11, Came: 102, Moves: 4, Out: true, In: true, Opened: 1, Done: 2}}
	if l := Add(a, b); !slices.Equal(l, want) {
		t.Error(l)
	}
	if l := Add(b, a); !slices.Equal(l, want) || len(Add(nil, nil)) != 0 || !slices.Equal(Add(nil, a[:1]), a[:1]) {
		t.Error(l)
	}
	if s := All(append(a, b...)); s != (api.Sum{Sent: 11, Came: 107, Moves: 4, Out: true, In: true, Opened: 1, Done: 2}) || All(nil) != (api.Sum{}) {
		t.Error(s)
	}
	if s, is := Find(a, 3); s != a[0] || !is {
		t.Error("the first one", s)
	}
	if s, is := Find(a, 4); s != (api.Sum{}) || is {
		t.Error("none")
	}
	if s, is := Find(a, 0); s != (api.Sum{}) || !is {
		t.Error("one of nothing")
	}
}

// P35.3
func TestTop(t *testing.T) {
	l := []api.Sum{{Stream: 9, Sent: 5}, {Stream: 2, Sent: 1, Came: 4}, {Stream: 7, Came: 6}, {Stream: 2, Came: 1}, {Stream: -1}}
	for _, c := range []struct {
		n    int
		want []int
	}{{-1, nil}, {0, nil}, {1, []int{7}}, {3, []int{7, 2, 9}}, {5, []int{7, 2, 9, 2, -1}}, {99, []int{7, 2, 9, 2, -1}}, {1<<63 - 1, []int{7, 2, 9, 2, -1}}, {-1 << 63, nil}} {
		if got := Top(l, c.n); !slices.Equal(got, c.want) {
			t.Error(c.n, got)
		}
	}
	if l[0].Stream != 9 || len(Top(nil, 4)) != 0 {
		t.Error("what is handed in is not changed")
	}
}

// P35.3
func TestTopOrder(t *testing.T) {
	r := rand.New(rand.NewSource(2))
	for range 300 {
		var l []api.Sum
		for range r.Intn(9) {
			l = append(l, api.Sum{Stream: r.Intn(5), Sent: r.Intn(4), Came: r.Intn(4)})
		}
		ids := Top(l, len(l))
		rest := slices.Clone(l)
		for i, id := range ids {
			best := 0
			for k, s := range rest {
				if b := rest[best]; s.Sent+s.Came > b.Sent+b.Came || s.Sent+s.Came == b.Sent+b.Came && s.Stream < b.Stream {
					best = k
				}
			}
			if rest[best].Stream != id {
				t.Fatal(i, l, ids)
			}
			rest = slices.Delete(rest, best, best+1)
		}
		if len(rest) != 0 {
			t.Fatal("not all", rest)
		}
	}
}

// P35.4
func TestParts(t *testing.T) {
	r := rand.New(rand.NewSource(1))
	for range 300 {
		var l []api.Move
		for range r.Intn(30) {
			l = append(l, api.Move{What: r.Intn(6), Stream: r.Intn(6) - 1, N: r.Intn(9) - 1, End: r.Intn(5) == 0})
		}
		n := r.Intn(len(l) + 1)
		if a, b := Of(l), Add(Of(l[:n]), Of(l[n:])); !slices.Equal(a, b) {
			t.Fatal(a, b)
		}
	}
}
