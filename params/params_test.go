package params

import (
	"math/rand"
	"slices"
	"testing"

	"paternoster/api"
)

func set(w, s, i int) api.Settings { return api.Settings{Window: w, Streams: s, Items: i} }

// P16.1
func TestCheck(t *testing.T) {
	if First() != set(64, 8, 4) {
		t.Error(First())
	}
	for _, s := range []api.Settings{First(), set(0, 0, 0), set(4096, 32, 64)} {
		if Check(s) != api.OK {
			t.Error(s)
		}
	}
	for _, s := range []api.Settings{set(-1, 0, 0), set(4097, 0, 0), set(0, -1, 0), set(0, 33, 0), set(0, 0, -1), set(0, 0, 65)} {
		if Check(s) != api.ErrRange {
			t.Error(s)
		}
	}
}

// P16.2
func TestDiff(t *testing.T) {
	for i, c := range []struct {
		a, b api.Settings
		want []api.Param
	}{
		{First(), First(), nil},
		{First(), set(64, 9, 4), []api.Param{{ID: 2, Value: 9}}},
		{First(), set(0, 0, 0), []api.Param{{ID: 1}, {ID: 2}, {ID: 3}}},
		{set(1, 2, 3), set(-1, 2, 1<<40), []api.Param{{ID: 1, Value: -1}, {ID: 3, Value: 1 << 40}}},
	} {
		if l := Diff(c.a, c.b); !slices.Equal(l, c.want) {
			t.Error(i, l)
		}
	}
}

// P16.3
func TestApply(t *testing.T) {
	for i, c := range []struct {
		l    []api.Param
		want api.Settings
		code int
	}{
		{nil, First(), api.NoError},
		{[]api.Param{{ID: 1, Value: 5}, {ID: 3, Value: api.MaxWindow}, {ID: 1, Value: 6}}, set(6, 8, api.MaxWindow), api.NoError},
		{[]api.Param{{ID: 0, Value: 5}, {ID: 4, Value: 5}, {ID: -9, Value: 5}}, First(), api.NoError},
		{[]api.Param{{ID: 1, Value: 5}, {ID: 2, Value: -1}}, set(0, 0, 0), api.BadSettings},
		{[]api.Param{{ID: 3, Value: api.MaxWindow + 1}}, set(0, 0, 0), api.BadSettings},
		{[]api.Param{{ID: 99, Value: -1}}, set(0, 0, 0), api.BadSettings},
	} {
		if s, code := Apply(First(), c.l...); s != c.want || code != c.code {
			t.Error(i, s, code)
		}
	}
}

// P16.4
func TestBack(t *testing.T) {
	r := rand.New(rand.NewSource(1))
	for range 300 {
		a, b := set(r.Intn(3), r.Intn(3), r.Intn(3)), set(r.Intn(3), r.Intn(3), r.Intn(3))
		if s, code := Apply(a, Diff(a, b)...); s != b || code != api.NoError {
			t.Fatal(a, b, s)
		}
	}
}
