package shake

import (
	"math/rand"
	"slices"
	"testing"

	"paternoster/api"
	"paternoster/params"
)

func set(w, s, i int) api.Settings { return api.Settings{Window: w, Streams: s, Items: i} }

// P17.1
func TestSend(t *testing.T) {
	s := New()
	for i, c := range []struct {
		to   api.Settings
		want []api.Param
		e    api.Errno
	}{
		{set(64, 9, 4), []api.Param{{ID: 2, Value: 9}}, api.OK},
		{set(64, 9, 65), nil, api.ErrRange},
		{set(64, 9, 4), nil, api.OK},
		{set(1, 9, 5), []api.Param{{ID: 1, Value: 1}, {ID: 3, Value: 5}}, api.OK},
		{set(64, 9, 5), []api.Param{{ID: 1, Value: 64}}, api.OK},
		{set(64, 9, 5), nil, api.ErrLimit},
		{set(-1, 9, 5), nil, api.ErrRange},
	} {
		if l, e := s.Send(c.to); e != c.e || !slices.Equal(l, c.want) {
			t.Error(i, l, int(e))
		}
	}
	s.Ack()
	if l, e := s.Send(set(0, 9, 5)); e != api.OK || !slices.Equal(l, []api.Param{{ID: 1, Value: 0}}) {
		t.Error("room again", l)
	}
	if l, e := (*Shake)(nil).Send(set(-1, 0, 0)); l != nil || e != api.ErrNil {
		t.Error("nil")
	}
}

// P17.2
func TestAck(t *testing.T) {
	s := New()
	if a, b, code := s.Ack(); a != set(0, 0, 0) || b != set(0, 0, 0) || code != api.Protocol {
		t.Error("none")
	}
	s.Send(set(64, 9, 4))
	s.Send(set(1, 1, 1))
	if a, b, code := s.Ack(); a != set(64, 8, 4) || b != set(64, 9, 4) || code != api.NoError {
		t.Error(a, b, code)
	}
	if a, b, code := s.Ack(); a != set(64, 9, 4) || b != set(1, 1, 1) || code != api.NoError {
		t.Error(a, b, code)
	}
	if _, _, code := s.Ack(); code != api.Protocol {
		t.Error("no more")
	}
	if a, b, code := (*Shake)(nil).Ack(); a != set(0, 0, 0) || b != set(0, 0, 0) || code != api.Internal {
		t.Error("nil")
	}
}

// P17.3
func TestLooks(t *testing.T) {
	s := New()
	if s.Holds() != params.First() || s.Latest() != params.First() || s.Most() != params.First() || s.Waiting() != 0 {
		t.Error("new")
	}
	s.Send(set(100, 2, 9))
	s.Send(set(50, 9, 3))
	if s.Holds() != params.First() || s.Latest() != set(50, 9, 3) || s.Most() != set(100, 9, 9) || s.Waiting() != 2 {
		t.Error("two")
	}
	s.Ack()
	if s.Holds() != set(100, 2, 9) || s.Latest() != set(50, 9, 3) || s.Waiting() != 1 {
		t.Error("one")
	}
	s.Ack()
	if s.Holds() != set(50, 9, 3) || s.Latest() != set(50, 9, 3) || s.Most() != set(100, 9, 9) {
		t.Error("none")
	}
	var none *Shake
	if none.Holds() != set(0, 0, 0) || none.Latest() != set(0, 0, 0) || none.Most() != set(0, 0, 0) || none.Waiting() != 0 {
		t.Error("nil")
	}
}

// P17.4
func TestOrder(t *testing.T) {
	r := rand.New(rand.NewSource(1))
	for range 100 {
		s := New()
		there := params.First()
		var had []api.Settings
		for range 60 {
			if r.Intn(2) == 0 {
				if l, e := s.Send(set(r.Intn(9), r.Intn(9), r.Intn(9))); e == api.OK {
					there, _ = params.Apply(there, l...)
					had = append(had, there)
				}
			} else if _, b, code := s.Ack(); code == api.NoError {
				if b != had[0] || s.Holds() != b {
					t.Fatal("holds", b)
				}
				had = had[1:]
			}
			if there != s.Latest() || len(had) != s.Waiting() || len(had) > 4 {
				t.Fatal(there, s.Latest())
			}
		}
	}
}
