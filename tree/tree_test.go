package tree

import (
	"math/rand"
	"slices"
	"strconv"
	"strings"
	"testing"

	"paternoster/api"
)

func made(t *testing.T, n int) *Tree {
	x, e := New(n)
	if e != api.OK || x.Len() != 0 {
		t.Fatal(n, int(e))
	}
	return x
}

func dep(on, weight int, excl bool) api.Dep { return api.Dep{On: on, Weight: weight, Excl: excl} }

// shape: id<parent*weight of all, in order.
func shape(x *Tree) string {
	var l []string
	for _, id := range x.Order() {
		l = append(l, strconv.Itoa(id)+"<"+strconv.Itoa(x.Parent(id))+"*"+strconv.Itoa(x.Weight(id)))
	}
	return strings.Join(l, " ")
}

func check(t *testing.T, what string, x *Tree, want string) {
	if s := shape(x); s != want {
		t.Errorf("%s: %s, not %s", what, s, want)
	}
}

// P14.1
func TestInsert(t *testing.T) {
	made(t, 256)
	made(t, 1)
	for _, n := range []int{0, -1, 257} {
		if x, e := New(n); x != nil || e != api.ErrArg {
			t.Error(n)
		}
	}
	x := made(t, 6)
	for i, c := range []struct {
		id   int
		d    api.Dep
		want api.Errno
		tree string
	}{
		{0, dep(0, 1, false), api.ErrArg, ""}, {-1, dep(0, 1, false), api.ErrArg, ""}, {api.MaxID + 1, dep(0, 1, false), api.ErrArg, ""},
		{1, dep(-1, 1, false), api.ErrArg, ""}, {1, dep(api.MaxID+1, 1, false), api.ErrArg, ""}, {1, dep(0, 0, false), api.ErrArg, ""}, {1, dep(1, 257, false), api.ErrArg, ""},
		{1, dep(1, 1, false), api.ErrCycle, ""},
		{1, dep(0, 10, true), api.OK, "1<0*10"},
		{1, dep(1, 1, false), api.ErrCycle, "1<0*10"},
		{1, dep(0, 1, false), api.ErrExist, "1<0*10"},
		{3, dep(0, 256, false), api.OK, "1<0*10 3<0*256"},
		{5, dep(1, 7, false), api.OK, "1<0*10 3<0*256 5<1*7"},
		{7, dep(99, 8, true), api.OK, "1<0*10 3<0*256 7<0*8 5<1*7"},
		{2, dep(0, 9, true), api.OK, "2<0*9 1<2*10 3<2*256 7<2*8 5<1*7"},
		{4, dep(2, 1, true), api.OK, "2<0*9 4<2*1 1<4*10 3<4*256 7<4*8 5<1*7"},
		{6, dep(0, 9, true), api.ErrLimit, "2<0*9 4<2*1 1<4*10 3<4*256 7<4*8 5<1*7"},
		{4, dep(0, 9, true), api.ErrExist, "2<0*9 4<2*1 1<4*10 3<4*256 7<4*8 5<1*7"},
	} {
		if e := x.Insert(c.id, c.d); e != c.want {
			t.Error(i, int(e))
		}
		check(t, strconv.Itoa(i), x, c.tree)
	}
	far := made(t, 3)
	if far.Insert(api.MaxID, dep(0, 256, false)) != api.OK || far.Insert(1, dep(api.MaxID, 1, false)) != api.OK || far.Parent(1) != api.MaxID {
		t.Error("the greatest ones")
	}
	if (*Tree)(nil).Insert(0, dep(0, 0, false)) != api.ErrNil {
		t.Error("nil")
	}
}

// chain: 1 on 0, 2 on 1, 3 on 2, 4 on 1.
func chain(t *testing.T) *Tree {
	x := made(t, 9)
	x.Insert(1, dep(0, 1, false))
	x.Insert(2, dep(1, 2, false))
	x.Insert(3, dep(2, 3, false))
	x.Insert(4, dep(1, 4, false))
	return x
}

// P14.2
func TestMove(t *testing.T) {
	x := made(t, 9)
	x.Insert(1, dep(0, 1, false))
	x.Insert(3, dep(1, 1, false))
	x.Move(1, dep(3, 1, false))
	check(t, "onto its own", x, "3<0*1 1<3*1")
	for i, c := range []struct {
		id   int
		d    api.Dep
		e    api.Errno
		tree string
	}{
		{9, dep(-1, 0, false), api.ErrNone, "1<0*1 2<1*2 4<1*4 3<2*3"},
		{1, dep(-1, 1, false), api.ErrArg, "1<0*1 2<1*2 4<1*4 3<2*3"},
		{1, dep(1, 0, false), api.ErrArg, "1<0*1 2<1*2 4<1*4 3<2*3"},
		{1, dep(1, 1, false), api.ErrCycle, "1<0*1 2<1*2 4<1*4 3<2*3"},
		{3, dep(0, 9, false), api.OK, "1<0*1 3<0*9 2<1*2 4<1*4"},
		{3, dep(0, 9, true), api.OK, "3<0*9 1<3*1 2<1*2 4<1*4"},
		{3, dep(77, 9, true), api.OK, "1<0*1 3<0*9 2<1*2 4<1*4"},
		{1, dep(3, 9, false), api.OK, "3<0*3 1<3*9 2<1*2 4<1*4"},
		{1, dep(3, 9, true), api.OK, "3<0*3 1<3*9 2<1*2 4<1*4"},
		{1, dep(2, 9, true), api.OK, "2<0*2 1<2*9 3<1*3 4<1*4"},
		{1, dep(2, 9, false), api.OK, "2<0*2 1<2*9 3<2*3 4<1*4"},
		{2, dep(1, 5, true), api.OK, "1<0*1 2<1*5 3<2*3 4<2*4"},
		{2, dep(1, 5, false), api.OK, "1<0*1 2<1*5 4<1*4 3<2*3"},
	} {
		x := chain(t)
		if e := x.Move(c.id, c.d); e != c.e {
			t.Error(i, int(e))
		}
		check(t, strconv.Itoa(i), x, c.tree)
	}
	if (*Tree)(nil).Move(1, dep(1, 0, false)) != api.ErrNil {
		t.Error("nil")
	}
}

// P14.3
func TestRemove(t *testing.T) {
	x := chain(t)
	x.Move(1, dep(0, 200, false))
	if x.Remove(9) != api.ErrNone || x.Remove(0) != api.ErrNone || x.Remove(1) != api.OK || x.Remove(1) != api.ErrNone {
		t.Error("errors")
	}
	check(t, "shared out", x, "2<0*66 4<0*133 3<2*3")
	x.Remove(3)
	check(t, "a leaf", x, "2<0*66 4<0*133")
	y := made(t, 9)
	y.Insert(1, dep(0, 1, false))
	for id := 2; id < 6; id++ {
		y.Insert(id, dep(1, 256, false))
	}
	y.Remove(1)
	check(t, "1 at least", y, "2<0*1 3<0*1 4<0*1 5<0*1")
	if (*Tree)(nil).Remove(1) != api.ErrNil {
		t.Error("nil")
	}
}

// P14.4
func TestLooks(t *testing.T) {
	x := chain(t)
	if !x.Has(3) || x.Has(0) || x.Has(5) || x.Parent(3) != 2 || x.Parent(5) != 0 || x.Weight(4) != 4 || x.Weight(5) != 0 || x.Weight(0) != 0 || x.Len() != 4 {
		t.Error("a node")
	}
	if !slices.Equal(x.Kids(1), []int{2, 4}) || !slices.Equal(x.Kids(0), []int{1}) || len(x.Kids(3)) != 0 || len(x.Kids(77)) != 0 {
		t.Error("kids")
	}
	if x.Depth(1) != 1 || x.Depth(3) != 3 || x.Depth(0) != 0 || x.Depth(77) != 0 || !slices.Equal(x.Order(), []int{1, 2, 4, 3}) {
		t.Error("depth")
	}
	var none *Tree
	if none.Has(1) || none.Parent(1) != 0 || none.Weight(1) != 0 || len(none.Kids(0)) != 0 || none.Depth(1) != 0 || len(none.Order()) != 0 || none.Len() != 0 {
		t.Error("nil")
	}
}

// P14.5, P14.6, P14.7
func TestTree(t *testing.T) {
	r := rand.New(rand.NewSource(1))
	for range 100 {
		x := made(t, 12)
		there := map[int]int{}
		for range 150 {
			id := r.Intn(20)
			d := dep(r.Intn(20), r.Intn(300), r.Intn(2) == 0)
			switch r.Intn(5) {
			case 0, 1:
				if x.Insert(id, d) == api.OK {
					there[id] = 1
				}
			case 2, 3:
				x.Move(id, d)
			case 4:
				if x.Remove(id) == api.OK {
					delete(there, id)
				}
			}
			order := x.Order()
			if len(order) != len(there) || x.Len() != len(there) {
				t.Fatal("not all lead to the root", order)
			}
			for i, id := range order {
				if there[id] != 1 || x.Weight(id) < 1 || x.Weight(id) > 256 || !slices.Contains(x.Kids(x.Parent(id)), id) {
					t.Fatal(id)
				}
				steps := 0
				for p := id; p != 0; p = x.Parent(p) {
					steps++
				}
				if steps != x.Depth(id) || i > 0 && (x.Depth(order[i-1]) > steps || x.Depth(order[i-1]) == steps && order[i-1] >= id) {
					t.Fatal("order", order)
				}
			}
		}
	}
}
