package header

import (
	"math/rand"
	"testing"

	"paternoster/api"
)

// P2.1
func TestPut(t *testing.T) {
	for i, c := range []struct {
		h    api.Head
		want string
		e    api.Errno
	}{
		{api.Head{Len: 4, Type: 10, Stream: 3}, "\x00\x00\x04\x0a\x00\x00\x00\x00\x03", api.OK},
		{api.Head{}, "\x00\x00\x00\x00\x00\x00\x00\x00\x00", api.OK},
		{api.Head{Len: 1<<24 - 1, Type: 255, Flags: 255, Stream: api.MaxID}, "\xff\xff\xff\xff\xff\x7f\xff\xff\xff", api.OK},
		{api.Head{Len: 1 << 24}, "", api.ErrArg},
		{api.Head{Len: -1}, "", api.ErrArg},
		{api.Head{Type: 256}, "", api.ErrArg},
		{api.Head{Type: -1}, "", api.ErrArg},
		{api.Head{Flags: 256}, "", api.ErrArg},
		{api.Head{Flags: -1}, "", api.ErrArg},
		{api.Head{Stream: api.MaxID + 1}, "", api.ErrArg},
		{api.Head{Stream: -1}, "", api.ErrArg},
	} {
		if s, e := Put(c.h); s != c.want || e != c.e {
			t.Errorf("%d: %q %d", i, s, int(e))
		}
	}
}

// P2.1
func TestGet(t *testing.T) {
	if _, e := Get("12345678"); e != api.ErrShort {
		t.Error("short", int(e))
	}
	if h, e := Get("\x00\x00\x04\x0a\x00\x80\x00\x00\x03"); e != api.ErrForm || h != (api.Head{}) {
		t.Error("highest bit", h, int(e))
	}
	if h, e := Get("\x00\x01\x04\x0a\x09\x00\x00\x00\x03more"); e != api.OK || h != (api.Head{Len: 260, Type: 10, Flags: 9, Stream: 3}) {
		t.Error("first nine", h, int(e))
	}
}

// P2.2
func TestNeedsLong(t *testing.T) {
	want := []struct {
		zero, above bool
		long        int
	}{
		{false, true, -1}, {false, true, -1}, {false, true, 8}, {false, true, 8}, {false, true, 4}, {true, false, -1},
		{true, false, 0}, {true, false, 8}, {true, false, 8}, {true, false, 8}, {true, true, 4}, {false, true, 4},
	}
	for k, w := range want {
		z, a, e := Needs(k)
		n, e2 := Long(k)
		if z != w.zero || a != w.above || n != w.long || e != api.OK || e2 != api.OK {
			t.Error(k, z, a, n)
		}
	}
	for _, k := range []int{-1, 12, 1 << 40, -1 << 63} {
		z, a, e := Needs(k)
		n, e2 := Long(k)
		if z || a || n != 0 || e != api.ErrRange || e2 != api.ErrRange {
			t.Error(k)
		}
	}
}

// P2.3
func TestFits(t *testing.T) {
	for i, c := range []struct {
		h    api.Head
		want int
	}{
		{api.Head{Len: 8, Type: api.FPing}, api.NoError},
		{api.Head{Len: 8, Type: api.FPing, Stream: 1}, api.Protocol},
		{api.Head{Len: 7, Type: api.FPing}, api.FrameSize},
		{api.Head{Len: 7, Type: api.FPing, Stream: 1}, api.Protocol},
		{api.Head{Len: 257, Type: 99, Stream: 1}, api.FrameSize},
		{api.Head{Len: -1, Type: api.FData, Stream: 1}, api.FrameSize},
		{api.Head{Len: 256, Type: api.FData, Stream: 1}, api.NoError},
		{api.Head{Len: 0, Type: api.FItem, Flags: 1, Stream: 1}, api.NoError},
		{api.Head{Type: api.FItem, Flags: 2, Stream: 1}, api.Protocol},
		{api.Head{Type: api.FItem, Flags: -1, Stream: 1}, api.Protocol},
		{api.Head{Type: api.FItem}, api.Protocol},
		{api.Head{Type: api.FItem, Stream: -1}, api.Protocol},
		{api.Head{Type: api.FItem, Stream: api.MaxID + 5}, api.NoError},
		{api.Head{Type: 12, Stream: 1}, api.Protocol},
		{api.Head{Type: -1}, api.Protocol},
		{api.Head{Len: 48, Type: api.FSettings}, api.NoError},
		{api.Head{Len: 54, Type: api.FSettings}, api.FrameSize},
		{api.Head{Len: 7, Type: api.FSettings}, api.FrameSize},
		{api.Head{Type: api.FSettings}, api.NoError},
		{api.Head{Type: api.FSettings, Flags: 1}, api.Protocol},
		{api.Head{Len: 4, Type: api.FWindow}, api.NoError},
		{api.Head{Len: 4, Type: api.FWindow, Stream: 7}, api.NoError},
		{api.Head{Len: 4, Type: api.FWindow, Stream: -7}, api.Protocol},
		{api.Head{Len: 1, Type: api.FAck}, api.FrameSize},
		{api.Head{Len: 4, Type: api.FReset, Stream: 2}, api.NoError},
		{api.Head{Len: 8, Type: api.FOpen, Stream: 2, Flags: 1}, api.Protocol},
	} {
		if n := Fits(c.h); n != c.want {
			t.Errorf("%d: %d", i, n)
		}
	}
}

// P2.3: the flags of each type.
func TestFlags(t *testing.T) {
	for kind := range 12 {
		zero, _, _ := Needs(kind)
		h := api.Head{Type: kind, Stream: 1}
		if zero {
			h.Stream = 0
		}
		h.Len, _ = Long(kind)
		h.Len = max(h.Len, 0)
		for flags, want := range []int{api.NoError, api.Protocol, api.Protocol} {
			if flags == 1 && kind <= api.FItem {
				want = api.NoError
			}
			h.Flags = flags
			if code := Fits(h); code != want {
				t.Error(kind, flags, code)
			}
		}
	}
}

// P2.4
func TestBack(t *testing.T) {
	r := rand.New(rand.NewSource(1))
	for range 500 {
		h := api.Head{Len: r.Intn(1 << 24), Type: r.Intn(256), Flags: r.Intn(256), Stream: r.Intn(api.MaxID + 1)}
		s, _ := Put(h)
		if g, e := Get(s); g != h || e != api.OK {
			t.Fatal(h, g)
		}
		var b [9]byte
		r.Read(b[:])
		if g, e := Get(string(b[:])); e == api.OK {
			if s, _ := Put(g); s != string(b[:]) {
				t.Fatal(b)
			}
		} else if b[5] < 128 {
			t.Fatal(b)
		}
	}
}
