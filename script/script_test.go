package script

import (
	"math/rand"
	"slices"
	"strconv"
	"strings"
	"testing"

	"paternoster/api"
)

func conf() api.Conf {
	return api.Conf{Settings: api.Settings{Window: 64, Streams: 8, Items: 4}, SendBytes: 256, SendItems: 8}
}

const head = "paternoster 64 8 4 256 8 0 0 0 0 64 8 4 256 8 0 0 0 0\n"

// acts: acts that have a line, and their lines.
func acts() ([]api.Act, []string) {
	return []api.Act{
		{Kind: api.XOpen, Side: 1, N: 2, Code: 1, Dep: api.Dep{On: 3, Weight: 16, Excl: true}},
		{Kind: api.XOffer, ID: 1, S: "a b"},
		{Kind: api.XOffer, Side: 1, ID: 1},
		{Kind: api.XOffer, ID: 1, S: ".%\x00\xffaZ09-_"},
		{Kind: api.XOffer, ID: 1, S: "azAZ09@[`{/:"},
		{Kind: api.XFinish, ID: 5},
		{Kind: api.XRead, Side: 1, ID: 3, N: -1},
		{Kind: api.XItem, ID: -9223372036854775808},
		{Kind: api.XAsk, ID: 3, N: 9223372036854775807},
		{Kind: api.XMove, ID: 3, Dep: api.Dep{On: 1, Weight: 2}},
		{Kind: api.XReset, Side: -7, ID: 3, Code: 8},
		{Kind: api.XGoaway, Side: 1},
		{Kind: api.XSettings, Settings: api.Settings{Window: 1, Streams: 2, Items: 3}},
		{Kind: api.XStep, Side: 1},
		{Kind: api.XDeliver, Side: 1, N: 900},
		{Kind: api.XTick},
		{Kind: api.XInject, S: strings.Repeat("\n", 600)},
	}, []string{
		"open 1 2 1 3 16 1", "offer 0 1 a%20b", "offer 1 1 .", "offer 0 1 %2E%25%00%FFaZ09-_", "offer 0 1 azAZ09%40%5B%60%7B%2F%3A", "finish 0 5", "read 1 3 -1", "item 0 -9223372036854775808",
		"ask 0 3 9223372036854775807", "move 0 3 1 2 0", "reset -7 3 8", "goaway 1", "settings 0 1 2 3", "step 1", "deliver 1 900", "tick", "inject 0 " + strings.Repeat("%0A", 600),
	}
}

// P31.1
func TestLine(t *testing.T) {
	l, lines := acts()
	for i, a := range l {
		if s, e := Line(a); s != lines[i] || e != api.OK {
			t.Errorf("%d: %q", i, s)
		}
		if b, e := Parse(lines[i]); b != a || e != api.OK {
			t.Errorf("%d: %v", i, b)
		}
	}
	for i, a := range []api.Act{
		{}, {Kind: -1}, {Kind: 15}, {Kind: api.XOffer, S: strings.Repeat("x", 601)}, {Kind: api.XTick, Side: 1}, {Kind: api.XStep, N: 1}, {Kind: api.XStep, S: "x"},
		{Kind: api.XOpen, ID: 1}, {Kind: api.XRead, Code: 1}, {Kind: api.XGoaway, Dep: api.Dep{Excl: true}}, {Kind: api.XMove, Settings: api.Settings{Items: 1}},
		{Kind: api.XSettings, Dep: api.Dep{On: 1}}, {Kind: api.XInject, ID: 2},
	} {
		if s, e := Line(a); s != "" || e != api.ErrLine {
			t.Errorf("%d: %q", i, s)
		}
	}
}

// P31.1
func TestParse(t *testing.T) {
	for _, s := range []string{
		"", " ", "tick ", " tick", "tick 1", "Tick", "step", "step 0 0", "step  0", "step 00", "step 01", "step +1", "step -0", "step 0x1", "step 1_0", "step 9223372036854775808", "step a", "step .",
		"open 0 1 0 0 16 2", "open 0 1 0 0 16 01", "open 0 1 0 0 16", "offer 0 1", "offer 0 1 ", "offer 0 1 a b", "offer 0 1 %", "offer 0 1 %2", "offer 0 1 %41", "offer 0 1 %2e", "offer 0 1 %G0", "offer 0 1 a.", "offer 0 1 ..",
		"offer 0 1 é", "offer 0 1 \x00", "inject 0 " + strings.Repeat("a", 601), "offer 0 1 %7A", "offer 0 1 %5A", "offer 0 1 %39", "offer 0 1 @", "offer 0 1 [", "offer 0 1 `", "offer 0 1 {", "offer 0 1 /", "offer 0 1 :", "tick\n", "deliver 1\t900", "none 0",
	} {
		if a, e := Parse(s); a != (api.Act{}) || e != api.ErrLine {
			t.Errorf("%q: %v", s, a)
		}
	}
}

// P31.2
func TestPrintRead(t *testing.T) {
	a, b := conf(), conf()
	b.Every, b.Wait, b.Stall, b.Strategy, b.Window = 7, 8, -9, 1, 0
	if s := Head(a, b); s != "paternoster 64 8 4 256 8 0 0 0 0 0 8 4 256 8 1 7 8 -9" {
		t.Error(s)
	}
	l, lines := acts()
	s, e := Print(Play{a, a, l})
	if e != api.OK || s != head+strings.Join(lines, "\n")+"\n" {
		t.Error("print", int(e))
	}
	if p, n, e := Read(s); e != api.OK || n != 0 || p.A != a || p.B != a || !slices.Equal(p.L, l) {
		t.Error("read", n, int(e))
	}
	if s, e := Print(Play{A: a, B: a}); s != head || e != api.OK {
		t.Error("no acts")
	}
	tick := slices.Repeat([]api.Act{{Kind: api.XTick}}, 513)
	if s, e := Print(Play{a, a, tick[:512]}); e != api.OK || len(s) != len(head)+512*5 {
		t.Error("512")
	}
	if s, e := Print(Play{a, a, append(tick, api.Act{})}); s != "" || e != api.ErrBig {
		t.Error("513")
	}
	if s, e := Print(Play{a, a, []api.Act{{Kind: 3}, {}}}); s != "" || e != api.ErrLine {
		t.Error("no line")
	}
	for i, c := range []struct {
		s string
		n int
		e api.Errno
	}{
		{"", 1, api.ErrShort}, {"x", 1, api.ErrShort}, {"x\n", 1, api.ErrLine}, {"\n", 1, api.ErrLine}, {head[:len(head)-1], 1, api.ErrShort}, {head + "tick", 2, api.ErrShort}, {head + "tick\n\n", 3, api.ErrLine},
		{head + head, 2, api.ErrLine}, {strings.Replace(head, " ", "  ", 1), 1, api.ErrLine}, {strings.Replace(head, "64", "064", 1), 1, api.ErrLine}, {strings.Replace(head, "p", "P", 1), 1, api.ErrLine},
		{strings.Replace(head, "64", "x", 1), 1, api.ErrLine}, {strings.Repeat("x", 1<<20+1), 0, api.ErrBig}, {strings.Repeat("x", 1<<20), 1, api.ErrShort},
		{head + strings.Repeat("tick\n", 513), 514, api.ErrBig}, {head + strings.Repeat("tick\n", 512) + "x\n", 514, api.ErrBig}, {head + strings.Repeat("tick\n", 512) + "x", 514, api.ErrShort},
		{head + "x\n" + strings.Repeat("tick\n", 600), 2, api.ErrLine}, {"paternoster 64 8 4\n", 1, api.ErrLine}, {strings.Replace(head, "0\n", "0 0\n", 1), 1, api.ErrLine},
	} {
		if p, n, e := Read(c.s); n != c.n || e != c.e || p.A != (api.Conf{}) || p.B != (api.Conf{}) || len(p.L) != 0 {
			t.Error(i, n, int(e))
		}
	}
}

// P31.3
func TestRun(t *testing.T) {
	s, e := Run(head + "open 0 1 0 0 16 0\noffer 0 1 ab\nstep 0\ndeliver 1 900\nread 1 1 5\nitem 1 1\nread 1 9 5\nread 7 1 5\nopen 1 2 0 0 16 0\noffer 1 2 a%20b\nfinish 1 2\nstep 1\ndeliver 0 900\nask 0 2 1\nstep 0\ndeliver 1 900\nstep 1\ndeliver 0 900\nitem 0 2\nitem 0 2\ntick\n")
	want := "0 1 . 0 0 1\n0 2 . 0 0 1\n0 37 . 0 0 1\n0 37 . 0 0 1\n0 2 ab 0 0 1\n13 0 . 0 0 1\n7 0 . 0 0 1\n3 0 . 0 0 1\n0 2 . 0 0 1\n0 1 . 0 0 1\n0 0 . 0 0 1\n0 35 . 0 0 1\n0 35 . 0 0 1\n0 0 . 0 0 1\n0 22 . 0 0 1\n0 22 . 0 0 1\n0 21 . 0 0 1\n0 21 . 0 0 1\n0 0 a%20b 1 1 1\n0 0 . 0 1 1\n0 1 . 0 0 1\n"
	if s != want || e != api.OK {
		t.Errorf("%d\n%s", int(e), s)
	}
	if s, e := Run(head); s != "" || e != api.OK {
		t.Error("no acts")
	}
	if s, e := Run(head + "x\n"); s != "" || e != api.ErrLine {
		t.Error("no script")
	}
	if s, e := Run("paternoster 64 8 4 256 8 9 0 0 0 64 8 4 256 8 0 0 0 0\ntick\n"); s != "" || e != api.ErrArg {
		t.Error("no duplex")
	}
}

// anyAct: an act that has a line.
func anyAct(r *rand.Rand) api.Act {
	b := make([]byte, r.Intn(20))
	r.Read(b)
	a := api.Act{Kind: 1 + r.Intn(14), Side: r.Intn(2), ID: 1 + r.Intn(4), N: r.Intn(200), Code: r.Intn(3), S: string(b), Dep: api.Dep{On: r.Intn(4), Weight: r.Intn(258), Excl: r.Intn(2) == 0}, Settings: api.Settings{Window: r.Intn(200), Streams: r.Intn(9), Items: r.Intn(9)}}
	if a.Kind == api.XOpen {
		a.N = r.Intn(3)
	}
	named := api.Act{Kind: a.Kind}
	fields := shapes[a.Kind].fields
	for i := range len(fields) {
		switch c := fields[i]; c {
		case text:
			named.S = a.S
		case truth:
			named.Excl = a.Excl
		default:
			*number(&named, c) = *number(&a, c)
		}
	}
	return named
}

// P31.4, P31.5
func TestBack(t *testing.T) {
	r := rand.New(rand.NewSource(1))
	for range 60 {
		p := Play{A: conf(), B: conf()}
		p.A.Strategy, p.B.Every = r.Intn(3), r.Intn(3)*40
		for range 200 + r.Intn(300) {
			a := anyAct(r)
			if a.Kind == api.XInject && r.Intn(20) > 0 || a.Kind == api.XGoaway && r.Intn(20) > 0 {
				a = api.Act{Kind: api.XStep, Side: r.Intn(2)}
			}
			if a.Kind == api.XDeliver {
				a.N = 900
			}
			p.L = append(p.L, a)
		}
		s, e := Print(p)
		if e != api.OK {
			t.Fatal(int(e))
		}
		q, n, e := Read(s)
		if e != api.OK || n != 0 || q.A != p.A || q.B != p.B || !slices.Equal(q.L, p.L) {
			t.Fatal("read", n, int(e))
		}
		if again, _ := Print(q); again != s {
			t.Fatal("print")
		}
		told, e := Run(s)
		lines := strings.Split(told, "\n")
		if e != api.OK || len(lines) != len(p.L)+1 {
			t.Fatal("run", int(e))
		}
		for i, l := range lines[:len(p.L)] {
			if !strings.HasSuffix(l, " 1") || len(strings.Split(l, " ")) != 6 {
				t.Fatal(i, p.L[i], l)
			}
		}
		if again, _ := Run(s); again != told {
			t.Fatal("again")
		}
	}
	// lines that are nearly right: what is read is told as it was.
	l, lines := acts()
	for range 3000 {
		b := []byte(lines[r.Intn(len(l)-1)])
		for range 1 + r.Intn(2) {
			b[r.Intn(len(b))] = " 0123456789abcdefABCDEF%.-_x"[r.Intn(28)]
		}
		if a, e := Parse(string(b)); e == api.OK {
			if s, _ := Line(a); s != string(b) {
				t.Fatal(strconv.Quote(string(b)))
			}
		}
	}
}
