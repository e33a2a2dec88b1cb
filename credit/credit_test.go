package credit

import (
	"math/rand"
	"slices"
	"testing"

	"paternoster/api"
)

const most31 = api.MaxWindow

func made(t *testing.T, conn int, windows ...int) *Ledger {
	l, e := New(conn)
	if e != api.OK {
		t.Fatal(int(e))
	}
	for i, n := range windows {
		if e := l.Open(2*i+1, n); e != api.OK {
			t.Fatal(i, int(e))
		}
	}
	return l
}

func sizes(l *Ledger) []int {
	var s []int
	for _, id := range append([]int{0}, l.IDs()...) {
		n, _ := l.Size(id)
		s = append(s, n)
	}
	return s
}

// P7.1
func TestOpenClose(t *testing.T) {
	for _, n := range []int{-1, most31 + 1} {
		if l, e := New(n); l != nil || e != api.ErrRange {
			t.Error(n)
		}
	}
	l := made(t, 10)
	for i, c := range []struct {
		id, n int
		want  api.Errno
	}{
		{0, 1, api.ErrArg}, {-1, 1, api.ErrArg}, {api.MaxID + 1, -1, api.ErrArg}, {5, -1, api.ErrRange}, {5, most31 + 1, api.ErrRange},
		{5, 3, api.OK}, {5, 3, api.ErrExist}, {5, -3, api.ErrRange}, {api.MaxID, 0, api.OK}, {2, most31, api.OK},
	} {
		if e := l.Open(c.id, c.n); e != c.want {
			t.Error(i, int(e))
		}
	}
	if !slices.Equal(l.IDs(), []int{2, 5, api.MaxID}) {
		t.Error(l.IDs())
	}
	if l.Close(3) != api.ErrNone || l.Close(5) != api.OK || l.Close(5) != api.ErrNone || !slices.Equal(l.IDs(), []int{2, api.MaxID}) {
		t.Error(l.IDs())
	}
	if l.Open(5, 9) != api.OK {
		t.Error("anew")
	}
	if n, _ := l.Size(5); n != 9 {
		t.Error("anew", n)
	}
	full := made(t, 1, make([]int, 64)...)
	if full.Open(1, 0) != api.ErrExist || full.Open(2, 0) != api.ErrLimit || full.Close(1) != api.OK || full.Open(2, 0) != api.OK {
		t.Error("limit")
	}
	var none *Ledger
	if none.Open(0, -1) != api.ErrNil || none.Close(1) != api.ErrNil {
		t.Error("nil")
	}
}

// P7.2
func TestSpendGrow(t *testing.T) {
	l := made(t, 10, 8, 8)
	if l.Spend(1, 8) != api.OK || l.Free(3) != 2 || l.Free(1) != 0 {
		t.Error(l.Free(3))
	}
	for i, c := range []struct{ got, want api.Errno }{
		{l.Spend(5, -1), api.ErrNone}, {l.Spend(0, 0), api.ErrNone}, {l.Spend(3, -1), api.ErrArg}, {l.Spend(3, 3), api.ErrFull}, {l.Spend(1, 1), api.ErrFull},
		{l.Spend(3, 1<<63-1), api.ErrFull}, {l.Grow(5, 0), api.ErrNone}, {l.Grow(3, 0), api.ErrArg}, {l.Grow(0, 0), api.ErrArg}, {l.Grow(0, most31), api.ErrOver},
		{l.Grow(3, most31), api.ErrOver}, {l.Grow(0, most31+1), api.ErrArg}, {l.Grow(-1, 1), api.ErrNone},
	} {
		if c.got != c.want {
			t.Error(i, int(c.got))
		}
	}
	if !slices.Equal(sizes(l), []int{2, 0, 8}) {
		t.Error(sizes(l))
	}
	if l.Spend(1, 0) != api.OK || l.Grow(0, 5) != api.OK || l.Grow(1, 3) != api.OK || !slices.Equal(sizes(l), []int{7, 3, 8}) || l.Free(3) != 7 || l.Free(1) != 3 {
		t.Error(sizes(l))
	}
	var none *Ledger
	if none.Spend(1, -1) != api.ErrNil || none.Grow(0, 0) != api.ErrNil {
		t.Error("nil")
	}
}

// P7.3
func TestResize(t *testing.T) {
	l := made(t, 10, 8, 3, 5)
	l.Spend(1, 6)
	if l.Resize(8, 4) != api.OK || !slices.Equal(sizes(l), []int{4, -2, -1, 1}) || l.Free(1) != 0 {
		t.Error(sizes(l))
	}
	if l.Spend(1, 0) != api.OK || l.Spend(1, 1) != api.ErrFull {
		t.Error("below 0")
	}
	if l.Resize(0, most31) != api.ErrOver || !slices.Equal(sizes(l), []int{4, -2, -1, 1}) {
		t.Error("one is passed: none has changed", sizes(l))
	}
	if l.Resize(most31, 0) != api.ErrOver || !slices.Equal(sizes(l), []int{4, -2, -1, 1}) {
		t.Error("below the least", sizes(l))
	}
	empty := made(t, 10)
	for _, c := range [][2]int{{-1, 0}, {0, -1}, {most31 + 1, 0}, {0, most31 + 1}} {
		if l.Resize(c[0], c[1]) != api.ErrArg || empty.Resize(c[0], c[1]) != api.ErrArg {
			t.Error(c)
		}
	}
	if empty.Resize(most31, 0) != api.OK || empty.Resize(0, most31) != api.OK || (*Ledger)(nil).Resize(-1, 0) != api.ErrNil {
		t.Error("none, nil")
	}
}

// P7.4
func TestLooks(t *testing.T) {
	l := made(t, 100, 8, 3)
	l.Spend(1, 6)
	l.Spend(3, 3)
	l.Close(3)
	look := func(n int, e api.Errno) [2]int { return [2]int{n, int(e)} }
	if look(l.Size(0)) != [2]int{91, 0} || look(l.Size(1)) != [2]int{2, 0} || look(l.Size(3)) != [2]int{0, int(api.ErrNone)} {
		t.Error("size")
	}
	if look(l.Spent(0)) != [2]int{9, 0} || look(l.Spent(1)) != [2]int{6, 0} || look(l.Spent(3)) != [2]int{0, int(api.ErrNone)} {
		t.Error("spent")
	}
	l.Open(3, 3)
	if look(l.Spent(3)) != [2]int{0, 0} || l.Free(0) != 0 || l.Free(9) != 0 {
		t.Error("since it was opened")
	}
	var none *Ledger
	nought := [2]int{0, int(api.ErrNil)}
	if look(none.Size(0)) != nought || look(none.Spent(0)) != nought || none.Free(1) != 0 || len(none.IDs()) != 0 {
		t.Error("nil")
	}
	ids := l.IDs()
	ids[0] = 77
	if l.IDs()[0] != 1 {
		t.Error("its own memory")
	}
}

// P7.5
func TestNever(t *testing.T) {
	r := rand.New(rand.NewSource(1))
	for range 100 {
		l := made(t, 60, 20, 20, 20)
		given := map[int]int{0: 60, 1: 20, 3: 20, 5: 20}
		spent := map[int]int{}
		window := 20
		for range 80 {
			id := 1 + 2*r.Intn(3)
			n := r.Intn(25)
			switch r.Intn(5) {
			case 0:
				if r.Intn(2) == 0 {
					id = 0
				}
				if l.Grow(id, n) == api.OK {
					given[id] += n
				}
			case 1:
				if l.Resize(window, n) == api.OK {
					for id := range given {
						if id > 0 {
							given[id] += n - window
						}
					}
					window = n
				}
			default:
				if l.Spend(id, n) == api.OK && n > 0 {
					spent[id] += n
					spent[0] += n
					if spent[id] > given[id] || spent[0] > given[0] {
						t.Fatal(spent, given)
					}
				}
			}
			for id := range given {
				n, _ := l.Size(id)
				k, _ := l.Spent(id)
				if n != given[id]-spent[id] || k != spent[id] {
					t.Fatal(id, n, k)
				}
			}
		}
	}
}
