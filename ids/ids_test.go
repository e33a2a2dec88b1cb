package ids

import (
	"math/rand"
	"testing"

	"paternoster/api"
)

func made(t *testing.T, side int) *IDs {
	x, e := New(side)
	if e != api.OK || x.Next() != side+1 || x.Last() != 0 {
		t.Fatal(side, int(e))
	}
	return x
}

// P11.1
func TestUseSkip(t *testing.T) {
	for _, side := range []int{-1, 2} {
		if x, e := New(side); x != nil || e != api.ErrArg {
			t.Error(side)
		}
	}
	for side := range 2 {
		x := made(t, side)
		for k := range 3 {
			if id, e := x.Use(); id != side+1+2*k || e != api.OK {
				t.Error(side, id)
			}
		}
		for i, c := range []struct {
			id   int
			want api.Errno
		}{{0, api.ErrArg}, {-1, api.ErrArg}, {-2, api.ErrArg}, {10 - side, api.ErrArg}, {api.MaxID + 1, api.ErrArg}, {api.MaxID + 2, api.ErrArg}, {side + 5, api.ErrRange}, {side + 7, api.OK}, {side + 7, api.ErrRange}, {api.MaxID - side, api.OK}} {
			if e := x.Skip(c.id); e != c.want {
				t.Error(side, i, int(e))
			}
		}
		if id, e := x.Use(); id != 0 || e != api.ErrLimit || x.Next() != api.MaxID-side+2 || !x.Past(api.MaxID-side) {
			t.Error(side, "none is left", id)
		}
	}
	x := made(t, 0)
	x.Skip(api.MaxID - 2)
	if id, e := x.Use(); id != api.MaxID || e != api.OK {
		t.Error("the greatest one", id)
	}
	var none *IDs
	if _, e := none.Use(); e != api.ErrNil || none.Skip(0) != api.ErrNil {
		t.Error("nil")
	}
}

// P11.2
func TestPeer(t *testing.T) {
	x := made(t, 0)
	for i, c := range []struct{ id, want, last int }{
		{4, api.NoError, 4}, {2, api.Protocol, 4}, {4, api.Protocol, 4}, {5, api.Protocol, 4}, {0, api.Protocol, 4}, {-2, api.Protocol, 4}, {6, api.NoError, 6},
		{api.MaxID + 1, api.Protocol, 6}, {api.MaxID, api.Protocol, 6}, {api.MaxID - 1, api.NoError, api.MaxID - 1}, {8, api.Protocol, api.MaxID - 1},
	} {
		if code := x.Peer(c.id); code != c.want || x.Last() != c.last {
			t.Error(i, code, x.Last())
		}
	}
	y := made(t, 1)
	if y.Peer(2) != api.Protocol || y.Peer(1) != api.NoError || y.Peer(api.MaxID) != api.NoError || (*IDs)(nil).Peer(1) != api.Internal {
		t.Error("side 1, nil")
	}
}

// P11.3
func TestLooks(t *testing.T) {
	x := made(t, 1)
	x.Use()
	x.Skip(6)
	x.Peer(5)
	for _, c := range []struct {
		id         int
		mine, past bool
	}{{2, true, true}, {4, true, true}, {6, true, true}, {8, true, false}, {1, false, true}, {3, false, true}, {5, false, true}, {7, false, false}, {0, false, false}, {-1, false, false}, {-2, false, false}, {api.MaxID, false, false}, {api.MaxID - 1, true, false}, {api.MaxID + 1, false, false}} {
		if x.Mine(c.id) != c.mine || x.Past(c.id) != c.past {
			t.Error(c.id, x.Mine(c.id), x.Past(c.id))
		}
	}
	var none *IDs
	if none.Mine(1) || none.Past(1) || none.Next() != 0 || none.Last() != 0 {
		t.Error("nil")
	}
}

// P11.4
func TestOnce(t *testing.T) {
	r := rand.New(rand.NewSource(1))
	for side := range 2 {
		x := made(t, side)
		used, opened := 0, 0
		for range 500 {
			id := r.Intn(300)
			past := x.Past(id)
			switch r.Intn(3) {
			case 0:
				id, _ = x.Use()
				if id <= used || !x.Mine(id) || !x.Past(id) {
					t.Fatal("twice", id)
				}
				used = id
			case 1:
				if x.Skip(id) == api.OK {
					if past || id <= used {
						t.Fatal("skip", id)
					}
					used = id
				}
			case 2:
				if x.Peer(id) == api.NoError {
					if id <= opened || x.Mine(id) || past || !x.Past(id) {
						t.Fatal("peer", id)
					}
					opened = id
				}
			}
		}
	}
}
