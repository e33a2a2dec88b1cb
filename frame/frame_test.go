package frame

import (
	"math/rand"
	"strings"
	"testing"

	"paternoster/api"
	"paternoster/header"
)

const most = 1<<31 - 1

var dep = api.Dep{On: 5, Weight: 256, Excl: true}

// good: frames that may be, and their bytes.
func good() ([]api.Frame, []string) {
	return []api.Frame{
		{Type: api.FWindow, Stream: 3, N: 258},
		{Type: api.FWindow, N: most},
		{Type: api.FData, Stream: 1, Data: "ab", End: true},
		{Type: api.FItem, Stream: most},
		{Type: api.FOpen, Stream: 7, Kind: api.KItems, Dep: dep},
		{Type: api.FPriority, Stream: 7, Dep: api.Dep{Weight: 1}},
		{Type: api.FReset, Stream: 2, Code: 8},
		{Type: api.FSettings},
		{Type: api.FSettings, Params: []api.Param{{ID: 65535, Value: most}, {ID: 1, Value: 2}}},
		{Type: api.FAck},
		{Type: api.FPing, Data: "12345678"},
		{Type: api.FPong, Data: "\x00\x00\x00\x00\xff\xff\xff\xff"},
		{Type: api.FGoaway, Last: 4, Code: most},
		{Type: api.FRequest, Stream: 4},
		{Type: api.FRequest, Stream: 4, N: 3},
		{Type: api.FItem, Stream: 4, Data: "q", End: true},
	}, []string{
		"\x00\x00\x04\x0a\x00\x00\x00\x00\x03\x00\x00\x01\x02",
		"\x00\x00\x04\x0a\x00\x00\x00\x00\x00\x7f\xff\xff\xff",
		"\x00\x00\x02\x00\x01\x00\x00\x00\x01ab",
		"\x00\x00\x00\x01\x00\x7f\xff\xff\xff",
		"\x00\x00\x08\x02\x00\x00\x00\x00\x07\x02\x01\xff\x00\x00\x00\x00\x05",
		"\x00\x00\x08\x03\x00\x00\x00\x00\x07\x00\x00\x00\x00\x00\x00\x00\x00",
		"\x00\x00\x04\x04\x00\x00\x00\x00\x02\x00\x00\x00\x08",
		"\x00\x00\x00\x05\x00\x00\x00\x00\x00",
		"\x00\x00\x0c\x05\x00\x00\x00\x00\x00\xff\xff\x7f\xff\xff\xff\x00\x01\x00\x00\x00\x02",
		"\x00\x00\x00\x06\x00\x00\x00\x00\x00",
		"\x00\x00\x08\x07\x00\x00\x00\x00\x0012345678",
		"\x00\x00\x08\x08\x00\x00\x00\x00\x00\x00\x00\x00\x00\xff\xff\xff\xff",
		"\x00\x00\x08\x09\x00\x00\x00\x00\x00\x00\x00\x00\x04\x7f\xff\xff\xff",
		"\x00\x00\x04\x0b\x00\x00\x00\x00\x04\x00\x00\x00\x00",
		"\x00\x00\x04\x0b\x00\x00\x00\x00\x04\x00\x00\x00\x03",
		"\x00\x00\x01\x01\x01\x00\x00\x00\x04q",
	}
}

// wrong: frames that may not be.
func wrong() []api.Frame {
	return []api.Frame{
		{Type: -1}, {Type: 12, Stream: 1}, {Type: api.FData}, {Type: api.FData, Stream: -1}, {Type: api.FData, Stream: most + 1},
		{Type: api.FAck, Stream: 1}, {Type: api.FWindow, Stream: -1}, {Type: api.FRequest, N: 1},
		{Type: api.FData, Stream: 1, Data: strings.Repeat("x", 257)}, {Type: api.FItem, Stream: 1, Data: strings.Repeat("x", 257)},
		{Type: api.FPing, Data: "1234567"}, {Type: api.FPong, Data: "123456789"}, {Type: api.FPing, Data: "12345678", End: true},
		{Type: api.FOpen, Stream: 1, Kind: 0, Dep: dep}, {Type: api.FOpen, Stream: 1, Kind: 3, Dep: dep},
		{Type: api.FOpen, Stream: 1, Kind: 1}, {Type: api.FOpen, Stream: 1, Kind: 1, Dep: api.Dep{Weight: 257}},
		{Type: api.FPriority, Stream: 1, Dep: api.Dep{On: -1, Weight: 1}}, {Type: api.FPriority, Stream: 1, Dep: api.Dep{On: most + 1, Weight: 1}},
		{Type: api.FPriority, Stream: 1, Kind: 1, Dep: dep}, {Type: api.FReset, Stream: 1, Code: -1}, {Type: api.FReset, Stream: 1, Code: most + 1},
		{Type: api.FReset, Stream: 1, Last: 1}, {Type: api.FGoaway, Last: -1}, {Type: api.FGoaway, Code: most + 1}, {Type: api.FGoaway, N: 1},
		{Type: api.FWindow, N: -1}, {Type: api.FWindow, N: most + 1}, {Type: api.FWindow, N: 1, Data: "x"}, {Type: api.FAck, Dep: api.Dep{Excl: true}},
		{Type: api.FSettings, Params: make([]api.Param, 9)}, {Type: api.FSettings, Params: []api.Param{{ID: -1}}},
		{Type: api.FSettings, Params: []api.Param{{ID: 65536}}}, {Type: api.FSettings, Params: []api.Param{{Value: -1}}},
		{Type: api.FSettings, Params: []api.Param{{Value: most + 1}}}, {Type: api.FAck, Params: []api.Param{{}}}, {Type: api.FData, Stream: 1, Code: 1},
	}
}

// P3.1
func TestPut(t *testing.T) {
	l, b := good()
	for i, f := range l {
		if s, e := Put(f); Check(f) != api.OK || e != api.OK || s != b[i] {
			t.Errorf("%d: %q %d", i, s, int(e))
		}
	}
	for i, f := range wrong() {
		if s, e := Put(f); Check(f) != api.ErrArg || e != api.ErrArg || s != "" {
			t.Errorf("wrong %d: %q", i, s)
		}
	}
	if Check(api.Frame{Type: api.FAck, Params: []api.Param{}}) != api.OK {
		t.Error("an empty list is nothing")
	}
	if Check(api.Frame{Type: api.FData, Stream: 1, Data: strings.Repeat("x", 256)}) != api.OK || Check(api.Frame{Type: api.FSettings, Params: make([]api.Param, 8)}) != api.OK {
		t.Error("the greatest ones")
	}
}

// P3.1
func TestAll(t *testing.T) {
	l, b := good()
	if s, e := All(l...); e != api.OK || s != strings.Join(b, "") {
		t.Error("all", int(e))
	}
	if s, e := All(); e != api.OK || s != "" {
		t.Error("none")
	}
	if s, e := All(append(l, wrong()[0])...); e != api.ErrArg || s != "" {
		t.Error("a wrong one")
	}
}

// P3.2
func TestGet(t *testing.T) {
	for i, c := range []struct {
		h    api.Head
		p    string
		code int
	}{
		{api.Head{Len: 8, Type: api.FPing, Stream: 1}, "12345678", api.Protocol},
		{api.Head{Len: 9, Type: api.FPing}, "123456789", api.FrameSize},
		{api.Head{Len: 8, Type: api.FPing}, "1234567", api.FrameSize},
		{api.Head{Len: 8, Type: api.FPing}, "123456789", api.FrameSize},
		{api.Head{Len: 1, Type: api.FData, Stream: most + 1}, "a", api.Protocol},
		{api.Head{Len: 8, Type: api.FOpen, Stream: 1}, "\x00\x00\x00\x00\x00\x00\x00\x00", api.Protocol},
		{api.Head{Len: 8, Type: api.FOpen, Stream: 1}, "\x03\x00\x00\x00\x00\x00\x00\x00", api.Protocol},
		{api.Head{Len: 8, Type: api.FOpen, Stream: 1}, "\x01\x02\x00\x00\x00\x00\x00\x00", api.Protocol},
		{api.Head{Len: 8, Type: api.FOpen, Stream: 1}, "\x01\x00\x00\x01\x00\x00\x00\x00", api.Protocol},
		{api.Head{Len: 8, Type: api.FOpen, Stream: 1}, "\x01\x00\x00\x00\x80\x00\x00\x00", api.Protocol},
		{api.Head{Len: 8, Type: api.FPriority, Stream: 1}, "\x01\x00\x00\x00\x00\x00\x00\x00", api.Protocol},
		{api.Head{Len: 4, Type: api.FReset, Stream: 1}, "\x80\x00\x00\x00", api.Protocol},
		{api.Head{Len: 4, Type: api.FWindow, Stream: 1}, "\xff\x00\x00\x00", api.Protocol},
		{api.Head{Len: 8, Type: api.FGoaway}, "\x00\x00\x00\x00\x80\x00\x00\x00", api.Protocol},
		{api.Head{Len: 8, Type: api.FGoaway}, "\x80\x00\x00\x00\x00\x00\x00\x00", api.Protocol},
		{api.Head{Len: 6, Type: api.FSettings}, "\x00\x01\x80\x00\x00\x00", api.Protocol},
	} {
		if f, code := Get(c.h, c.p); code != c.code || !Same(f, api.Frame{}) {
			t.Errorf("%d: %d", i, code)
		}
	}
}

// P3.3
func TestSame(t *testing.T) {
	l, _ := good()
	for i, a := range l {
		for k, b := range l {
			if Same(a, b) != (i == k) {
				t.Error(i, k)
			}
		}
	}
	base := api.Frame{Type: 1, Params: []api.Param{{ID: 1, Value: 2}}}
	for i, change := range []func(f *api.Frame){
		func(f *api.Frame) { f.Type = 2 }, func(f *api.Frame) { f.Stream = 1 }, func(f *api.Frame) { f.End = true }, func(f *api.Frame) { f.Data = "x" },
		func(f *api.Frame) { f.Kind = 1 }, func(f *api.Frame) { f.On = 1 }, func(f *api.Frame) { f.Weight = 1 }, func(f *api.Frame) { f.Excl = true },
		func(f *api.Frame) { f.Code = 1 }, func(f *api.Frame) { f.Last = 1 }, func(f *api.Frame) { f.N = 1 }, func(f *api.Frame) { f.Params = nil },
		func(f *api.Frame) { f.Params = []api.Param{{ID: 1, Value: 3}} }, func(f *api.Frame) { f.Params = []api.Param{{ID: 1, Value: 2}, {}} },
	} {
		f := base
		change(&f)
		if Same(base, f) || Same(f, base) || !Same(f, f) {
			t.Error(i)
		}
	}
	if !Same(api.Frame{}, api.Frame{Params: []api.Param{}}) {
		t.Error("no Params")
	}
}

// P3.4
func TestBack(t *testing.T) {
	l, _ := good()
	for i, f := range l {
		s, _ := Put(f)
		h, _ := header.Get(s)
		if g, code := Get(h, s[9:]); code != api.NoError || !Same(f, g) {
			t.Error(i, code)
		}
	}
	r := rand.New(rand.NewSource(1))
	got := 0
	for range 20000 {
		h := api.Head{Type: r.Intn(12), Flags: r.Intn(8) / 7, Stream: r.Intn(2)}
		h.Len, _ = header.Long(h.Type)
		if h.Len < 0 {
			h.Len = 6 * r.Intn(4)
		}
		p := make([]byte, h.Len)
		for i := range p {
			p[i] = byte(r.Intn(3))
		}
		f, code := Get(h, string(p))
		if code != api.NoError {
			continue
		}
		got++
		head, _ := header.Put(h)
		if s, e := Put(f); e != api.OK || s != head+string(p) {
			t.Fatal(h, p)
		}
	}
	if got < 1000 {
		t.Error("too few", got)
	}
}
