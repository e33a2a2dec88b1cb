package trace

import (
	"math/rand"
	"slices"
	"strings"
	"testing"

	"paternoster/api"
)

var one = api.Move{What: api.MSent, Stream: 3, N: 2, S: "ab"}

const oneLaid = "\x01\x00\x00\x00\x00\x03\x00\x00\x00\x02\x00\x02ab"

// P34.1
func TestLay(t *testing.T) {
	good := []api.Move{one, {What: api.MDone, Stream: api.MaxID, N: api.MaxID, End: true}, {What: api.MCame, Stream: 1, S: strings.Repeat("x", 256)}, {What: api.MOpened, Stream: 1}}
	for i, m := range good {
		if Check(m) != api.OK {
			t.Error(i)
		}
	}
	if s, e := Lay(good[:2]...); e != api.OK || s != oneLaid+"\x04\x01\x7f\xff\xff\xff\x7f\xff\xff\xff\x00\x00" {
		t.Errorf("%q", s)
	}
	if s, e := Lay(); e != api.OK || s != "" {
		t.Error("none")
	}
	for i, m := range []api.Move{{}, {What: 5, Stream: 1}, {What: -1, Stream: 1}, {What: 1}, {What: 1, Stream: -1}, {What: 1, Stream: api.MaxID + 1}, {What: 1, Stream: 1, N: -1}, {What: 1, Stream: 1, N: api.MaxID + 1}, {What: 1, Stream: 1, S: strings.Repeat("x", 257)}} {
		if Check(m) != api.ErrArg {
			t.Error(i)
		}
		if s, e := Lay(one, m); s != "" || e != api.ErrArg {
			t.Error(i)
		}
	}
	many := slices.Repeat([]api.Move{one}, 257)
	if s, e := Lay(many[:256]...); len(s) != 256*14 || e != api.OK {
		t.Error("256")
	}
	many[0] = api.Move{}
	if s, e := Lay(many...); s != "" || e != api.ErrBig {
		t.Error("257")
	}
}

// P34.2
func TestRead(t *testing.T) {
	if l, n, e := Read(oneLaid + oneLaid); e != api.OK || n != 28 || !slices.Equal(l, []api.Move{one, one}) {
		t.Error(l, n)
	}
	if l, n, e := Read(""); len(l) != 0 || n != 0 || e != api.OK {
		t.Error("none")
	}
	bad := func(i int, b byte) string { return oneLaid[:i] + string([]byte{b}) + oneLaid[i+1:] }
	for i, c := range []struct {
		s string
		n int
		e api.Errno
	}{
		{oneLaid + oneLaid[:13], 14, api.ErrShort}, {oneLaid[:1], 0, api.ErrShort}, {bad(0, 9)[:13], 0, api.ErrShort}, {bad(11, 3), 0, api.ErrShort},
		{oneLaid + bad(0, 0), 14, api.ErrForm}, {bad(0, 5), 0, api.ErrForm}, {bad(1, 2), 0, api.ErrForm}, {bad(2, 0x80), 0, api.ErrForm}, {bad(5, 0), 0, api.ErrForm}, {bad(6, 0x80), 0, api.ErrForm},
		{"\x01\x00\x00\x00\x00\x03\x00\x00\x00\x02\x01\x01" + strings.Repeat("x", 257), 0, api.ErrForm},
		{strings.Repeat(oneLaid, 257), 256 * 14, api.ErrBig}, {strings.Repeat(oneLaid, 256) + "x", 256 * 14, api.ErrShort}, {strings.Repeat(oneLaid, 256) + bad(0, 0), 256 * 14, api.ErrForm},
		{strings.Repeat("x", 1<<17+1), 0, api.ErrBig}, {strings.Repeat("x", 1<<17), 0, api.ErrForm},
	} {
		if l, n, e := Read(c.s); len(l) != 0 || n != c.n || e != c.e {
			t.Error(i, n, int(e))
		}
	}
	if l, n, e := Read(strings.Repeat(oneLaid, 256)); len(l) != 256 || n != 256*14 || e != api.OK {
		t.Error("256")
	}
}

// P34.3
func TestOfData(t *testing.T) {
	l := []api.Move{one, {What: api.MCame, Stream: 3, S: "x"}, {What: api.MSent, Stream: 5, S: "y"}, {What: api.MSent, Stream: 3, S: "c"}, {What: 77, Stream: -3, S: "q"}}
	if x := Of(l, 3); !slices.Equal(x, []api.Move{l[0], l[1], l[3]}) || len(Of(l, 4)) != 0 || len(Of(nil, 3)) != 0 || len(Of(l, -3)) != 1 {
		t.Error(x)
	}
	Of(l, 3)[0].N = 99
	if l[0].N != 2 || Data(l, api.MSent, 3) != "abc" || Data(l, api.MCame, 3) != "x" || Data(l, api.MCame, 5) != "" || Data(l, 77, -3) != "q" || Data(nil, 1, 3) != "" {
		t.Error("data")
	}
}

// P34.4
func TestBack(t *testing.T) {
	r := rand.New(rand.NewSource(1))
	for range 300 {
		var l []api.Move
		for range r.Intn(8) {
			l = append(l, api.Move{What: 1 + r.Intn(4), Stream: 1 + r.Intn(api.MaxID), N: r.Intn(api.MaxID + 1), S: strings.Repeat("q", r.Intn(30)), End: r.Intn(2) == 0})
		}
		s, e := Lay(l...)
		if e != api.OK {
			t.Fatal(int(e))
		}
		if m, n, e := Read(s); e != api.OK || n != len(s) || !slices.Equal(l, m) {
			t.Fatal(l, m)
		}
		if b := []byte(s); len(b) > 0 {
			b[r.Intn(len(b))] ^= byte(1 << r.Intn(8))
			if m, _, e := Read(string(b)); e == api.OK {
				if s, _ := Lay(m...); s != string(b) {
					t.Fatal(b)
				}
			}
		}
	}
}
