package dump

import (
	"math/rand"
	"slices"
	"strings"
	"testing"

	"paternoster/api"
	"paternoster/frame"
)

const most = 1<<31 - 1

func frames() ([]api.Frame, []string) {
	return []api.Frame{
		{Type: api.FData, Stream: 3, Data: "ab", End: true},
		{Type: api.FItem, Stream: most},
		{Type: api.FItem, Stream: 1, Data: "\x00\xff"},
		{Type: api.FOpen, Stream: 1, Kind: api.KBytes, Dep: api.Dep{On: 7, Weight: 256, Excl: true}},
		{Type: api.FOpen, Stream: 2, Kind: api.KItems, Dep: api.Dep{Weight: 1}},
		{Type: api.FPriority, Stream: 2, Dep: api.Dep{On: most, Weight: 1, Excl: true}},
		{Type: api.FPriority, Stream: 2, Dep: api.Dep{On: 2, Weight: 10}},
		{Type: api.FReset, Stream: 2, Code: most},
		{Type: api.FSettings},
		{Type: api.FSettings, Params: []api.Param{{ID: 1, Value: 70}, {ID: 65535, Value: most}}},
		{Type: api.FAck},
		{Type: api.FPing, Data: "12345678"},
		{Type: api.FPong, Data: "\x00\x00\x00\x00\x00\x00\x00\x0a"},
		{Type: api.FGoaway, Last: 8, Code: 0},
		{Type: api.FWindow, N: 5},
		{Type: api.FWindow, Stream: 9},
		{Type: api.FRequest, Stream: 4, N: most},
	}, []string{
		"data 3 6162 end", "item 2147483647 = more", "item 1 00ff more", "open 1 bytes 7 256 alone", "open 2 items 0 1 among", "priority 2 2147483647 1 alone", "priority 2 2 10 among", "reset 2 2147483647",
		"settings", "settings 1:70 65535:2147483647", "ack", "ping 3132333435363738", "pong 000000000000000a", "goaway 8 0", "window 0 5", "window 9 0", "request 4 2147483647",
	}
}

// P36.1
func TestLine(t *testing.T) {
	l, lines := frames()
	for i, f := range l {
		if s, e := Line(f); s != lines[i] || e != api.OK {
			t.Errorf("%d: %q", i, s)
		}
		if g, e := Parse(lines[i]); !frame.Same(f, g) || e != api.OK {
			t.Errorf("%d: %v", i, g)
		}
	}
	for i, f := range []api.Frame{{Type: 12}, {Type: -1}, {Type: api.FData}, {Type: api.FAck, Stream: 1}, {Type: api.FPing}, {Type: api.FWindow, N: -1}, {Type: api.FOpen, Stream: 1}, {Type: api.FSettings, Params: make([]api.Param, 9)}, {Type: api.FData, Stream: 1, Data: strings.Repeat("x", 257)}} {
		if s, e := Line(f); s != "" || e != api.ErrArg {
			t.Errorf("%d: %q", i, s)
		}
	}
}

// P36.1
func TestParse(t *testing.T) {
	for _, s := range []string{
		"", " ", "ack ", " ack", "Ack", "ack 0", "data", "data 3 6162", "data 3 6162 end ", "data 3  end", "data 3 616 end", "data 3 616G end", "data 3 6A end", "data 3 = End", "data 3 == end", "data 0 = end", "data 03 = end", "data +3 = end", "data -3 = end",
		"data 2147483648 = end", "data 99999999999999999999999999 = end", "data 3 " + strings.Repeat("00", 257) + " end", "open 1 bytes 0 257 among", "open 1 bytes 0 0 among", "open 1 byte 0 1 among", "open 1 bytes 0 1 both", "priority 1 1 alone",
		"settings 1", "settings 1:", "settings :1", "settings 1:2:3", "settings 65536:1", "settings 1:2147483648", "settings  1:2", "settings 01:2", "settings 1:1 1:1 1:1 1:1 1:1 1:1 1:1 1:1 1:1", "ping 31323334353637", "ping =", "ping 3132333435363738 0",
		"goaway 8", "goaway 8 0 0", "window 5", "window 0 -1", "request 0 1", "reset 0 1", "none 1", "ack\n", "data 3 é end", "window ٣ 1",
	} {
		if f, e := Parse(s); e != api.ErrLine || !frame.Same(f, api.Frame{}) {
			t.Errorf("%q: %v", s, f)
		}
	}
}

// P36.2
func TestAllLines(t *testing.T) {
	l, lines := frames()
	text := strings.Join(lines, "\n") + "\n"
	if s, e := All(l); s != text || e != api.OK {
		t.Error("all")
	}
	same := func(a, b []api.Frame) bool { return slices.EqualFunc(a, b, frame.Same) }
	if m, n, e := Lines(text); n != 0 || e != api.OK || !same(l, m) {
		t.Error("lines", n)
	}
	if s, e := All(nil); s != "" || e != api.OK {
		t.Error("none")
	}
	if s, e := All([]api.Frame{l[0], {}}); s != "" || e != api.ErrArg {
		t.Error("one that may not be")
	}
	many := slices.Repeat([]api.Frame{{Type: api.FAck}}, 513)
	if s, e := All(many[:512]); len(s) != 512*4 || e != api.OK {
		t.Error("512")
	}
	many[0] = api.Frame{}
	if s, e := All(many); s != "" || e != api.ErrBig {
		t.Error("513")
	}
	for i, c := range []struct {
		s string
		n int
		e api.Errno
	}{
		{"", 0, api.OK}, {"ack", 1, api.ErrShort}, {"x", 1, api.ErrShort}, {"ack\nack", 2, api.ErrShort}, {"\n", 1, api.ErrLine}, {"ack\n\nack\n", 2, api.ErrLine}, {"ack\nack \nack", 2, api.ErrLine},
		{strings.Repeat("ack\n", 513), 513, api.ErrBig}, {strings.Repeat("ack\n", 512) + "x\n", 513, api.ErrBig}, {strings.Repeat("ack\n", 512) + "x", 513, api.ErrShort},
	} {
		if m, n, e := Lines(c.s); len(m) != 0 || n != c.n || e != c.e {
			t.Error(i, n, int(e))
		}
	}
	if m, n, e := Lines(strings.Repeat("ack\n", 512)); len(m) != 512 || n != 0 || e != api.OK {
		t.Error("512")
	}
}

// P36.3
func TestBack(t *testing.T) {
	r := rand.New(rand.NewSource(1))
	_, lines := frames()
	read := 0
	for range 20000 {
		b := []byte(lines[r.Intn(len(lines))])
		for range 1 + r.Intn(3) {
			b[r.Intn(len(b))] = " 0123456789abcdef:=x"[r.Intn(20)]
		}
		f, e := Parse(string(b))
		if e != api.OK {
			continue
		}
		read++
		if s, e := Line(f); s != string(b) || e != api.OK {
			t.Fatalf("%q", b)
		}
	}
	if read < 1000 {
		t.Error("too few", read)
	}
}
