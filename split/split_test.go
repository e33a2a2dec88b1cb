package split

import (
	"math/rand"
	"strings"
	"testing"

	"paternoster/api"
	"paternoster/frame"
)

func frames() []api.Frame {
	return []api.Frame{
		{Type: api.FSettings, Params: []api.Param{{ID: 1, Value: 5}}},
		{Type: api.FAck},
		{Type: api.FData, Stream: 1, Data: strings.Repeat("abcd", 64), End: true},
		{Type: api.FItem, Stream: 1},
		{Type: api.FWindow, Stream: 1, N: 7},
	}
}

func laid(l ...api.Frame) string {
	s, _ := frame.All(l...)
	return s
}

func same(a, b []api.Frame) bool {
	if len(a) != len(b) {
		return false
	}
	for i := range a {
		if !frame.Same(a[i], b[i]) {
			return false
		}
	}
	return true
}

// P4.1
func TestFeed(t *testing.T) {
	x := New()
	l, code := x.Feed(laid(frames()...))
	if !same(l, frames()) || code != api.NoError || x.Kept() != 0 || x.Broken() != api.NoError {
		t.Error("all at once", code)
	}
	if l, code := New().Feed(laid(frames()[1])); !same(l, frames()[1:2]) || code != api.NoError {
		t.Error("nine bytes are enough")
	}
	if _, code := New().Feed("\x00\x00\x00\x63\x00\x00\x00\x00\x00"); code != api.Protocol {
		t.Error("nine bytes are enough to break")
	}
	one := laid(frames()[4])
	for i := range len(one) - 1 {
		if l, code := x.Feed(one[i : i+1]); len(l) != 0 || code != api.NoError || x.Kept() != i+1 {
			t.Error("byte", i)
		}
	}
	if l, code := x.Feed(one[len(one)-1:]); !same(l, frames()[4:]) || code != api.NoError || x.Kept() != 0 {
		t.Error("last byte")
	}
	if l, code := (*Split)(nil).Feed("a"); l != nil || code != api.Internal {
		t.Error("nil")
	}
}

// P4.1
func TestBreaks(t *testing.T) {
	ack := laid(api.Frame{Type: api.FAck})
	for i, c := range []struct {
		s    string
		code int
	}{
		{"\x00\x00\x00\x06\x00\x80\x00\x00\x00", api.Protocol},
		{"\x00\x00\x00\x06\x00\x00\x00\x00\x01", api.Protocol},
		{"\x00\x00\x01\x06\x00\x00\x00\x00\x00", api.FrameSize},
		{"\x00\x01\x01\x00\x00\x00\x00\x00\x01", api.FrameSize},
		{"\x00\x00\x04\x04\x00\x00\x00\x00\x01\x80\x00\x00\x00", api.Protocol},
	} {
		x := New()
		l, code := x.Feed(ack + ack + c.s + ack)
		if len(l) != 2 || code != c.code || x.Kept() != 0 || x.Broken() != c.code {
			t.Error(i, len(l), code)
		}
		if l, code := x.Feed(ack); len(l) != 0 || code != c.code || x.Kept() != 0 {
			t.Error(i, "goes on")
		}
	}
	x := New()
	if _, code := x.Feed("\x00\x00\x04\x04\x00\x00\x00\x00\x01\x80\x00\x00"); code != api.NoError || x.Kept() != 12 {
		t.Error("ahead of the last byte")
	}
}

// P4.2
func TestLooks(t *testing.T) {
	var none *Split
	if none.Kept() != 0 || none.Broken() != api.Internal || New().Kept() != 0 || New().Broken() != api.NoError {
		t.Error("nil, new")
	}
	x := New()
	s := laid(frames()[2])
	x.Feed(s[:len(s)-1])
	if x.Kept() != 8+api.MaxFrame {
		t.Error(x.Kept())
	}
}

// P4.3
func TestPieces(t *testing.T) {
	r := rand.New(rand.NewSource(1))
	for round := range 200 {
		var l []api.Frame
		for range r.Intn(12) {
			l = append(l, frames()[r.Intn(5)])
		}
		b := []byte(laid(l...))
		if round%2 == 1 && len(b) > 0 {
			b[r.Intn(len(b))] ^= byte(1 << r.Intn(8))
		}
		want, code := New().Feed(string(b))
		x := New()
		var got []api.Frame
		last := api.NoError
		for len(b) > 0 {
			n := 1 + r.Intn(min(len(b), 40))
			var part []api.Frame
			part, last = x.Feed(string(b[:n]))
			got = append(got, part...)
			b = b[n:]
			if x.Kept() > 8+api.MaxFrame {
				t.Fatal("keeps", x.Kept())
			}
		}
		if !same(got, want) || last != code {
			t.Fatal(round, code, last)
		}
	}
}
