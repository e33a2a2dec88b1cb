package beat

import (
	"math/rand"
	"testing"

	"paternoster/api"
)

func made(t *testing.T, every, wait int) *Beat {
	b, e := New(every, wait)
	if e != api.OK || b.Out() || b.Count() != 0 {
		t.Fatal(every, wait, int(e))
	}
	return b
}

func step(t *testing.T, b *Beat, now, want int, data string) {
	t.Helper()
	if what, s := b.Step(now); what != want || s != data {
		t.Errorf("at %d: %d %q", now, what, s)
	}
}

const first, second = "\x00\x00\x00\x00\x00\x00\x00\x01", "\x00\x00\x00\x00\x00\x00\x00\x02"

// P18.1
func TestNew(t *testing.T) {
	if Quiet != 0 || Ping != 1 || Lost != 2 {
		t.Error("constants")
	}
	made(t, 0, 0)
	made(t, api.MaxTicks, api.MaxTicks)
	for _, c := range [][2]int{{-1, 0}, {0, -1}, {api.MaxTicks + 1, 0}, {0, api.MaxTicks + 1}} {
		if b, e := New(c[0], c[1]); b != nil || e != api.ErrRange {
			t.Error(c)
		}
	}
}

// P18.2
func TestPong(t *testing.T) {
	b := made(t, 5, 3)
	if b.Pong(1, first) || b.Pong(1, "") {
		t.Error("none is out")
	}
	step(t, b, 5, Ping, first)
	for _, s := range []string{"", second, first + "x", "12345678"} {
		if b.Pong(900, s) || !b.Out() {
			t.Error("other data")
		}
	}
	step(t, b, 7, Quiet, "")
	if !b.Pong(7, first) || b.Out() || b.Pong(7, first) {
		t.Error("its data")
	}
	step(t, b, 11, Quiet, "")
	step(t, b, 12, Ping, second)
	if b.Pong(12, first) || !b.Pong(3, second) || b.Count() != 2 {
		t.Error("the second one")
	}
	step(t, b, 16, Quiet, "")
	b.Heard(16)
	step(t, b, 20, Quiet, "")
	b.Heard(4)
	step(t, b, 24, Quiet, "")
	step(t, b, 25, Ping, "\x00\x00\x00\x00\x00\x00\x00\x03")
}

// P18.2
func TestHeard(t *testing.T) {
	b := made(t, 5, 3)
	b.Heard(7)
	step(t, b, 11, Quiet, "")
	b.Heard(3)
	step(t, b, 15, Quiet, "")
	step(t, b, 16, Ping, first)
	off := made(t, 0, 0)
	off.Heard(5)
	if off.heard != 5 {
		t.Error("off")
	}
}

// P18.3
func TestStep(t *testing.T) {
	b := made(t, 5, 3)
	step(t, b, -9, Quiet, "")
	step(t, b, 4, Quiet, "")
	step(t, b, 5, Ping, first)
	if !b.Out() || b.Count() != 1 {
		t.Error("out")
	}
	step(t, b, 7, Quiet, "")
	b.Heard(7)
	step(t, b, 2, Quiet, "")
	step(t, b, 8, Lost, "")
	step(t, b, 0, Lost, "")
	b.Pong(9, first)
	b.Heard(9)
	step(t, b, 9, Lost, "")
	off := made(t, 0, 0)
	step(t, off, 1<<40, Quiet, "")
	nought := made(t, 1, 0)
	step(t, nought, 1, Ping, first)
	step(t, nought, 1, Lost, "")
	far := made(t, 1, 1)
	step(t, far, 1<<63-1, Ping, first)
	var none *Beat
	none.Heard(3)
	step(t, none, 5, Quiet, "")
	if none.Pong(1, first) {
		t.Error("nil")
	}
}

// P18.4
func TestLooks(t *testing.T) {
	var none *Beat
	if none.Out() || none.Count() != 0 {
		t.Error("nil")
	}
	b := made(t, 1, 9)
	for k := range 300 {
		what, s := b.Step(k + 1)
		if what != Ping || b.Count() != k+1 || !b.Out() || !b.Pong(k+1, s) || b.Out() {
			t.Fatal(k, what)
		}
	}
	b.count = 1<<31 - 2
	for i, want := range []string{"\x00\x00\x00\x00\x7f\xff\xff\xff", "\x00\x00\x00\x00\x00\x00\x00\x00", first} {
		if _, s := b.Step(301 + i); s != want || !b.Pong(301+i, s) {
			t.Errorf("modulo: %q", s)
		}
	}
	b.count = 300
	if _, s := b.Step(304); s != "\x00\x00\x00\x00\x00\x00\x01\x2d" {
		t.Errorf("%q", s)
	}
}

// P18.5
func TestOnlyThen(t *testing.T) {
	r := rand.New(rand.NewSource(1))
	for range 500 {
		wait := r.Intn(6)
		b := made(t, 1+r.Intn(4), wait)
		out, since, data := false, 0, ""
		for now := range 60 {
			if r.Intn(3) == 0 {
				b.Heard(now)
			}
			if out && r.Intn(6) == 0 {
				if !b.Pong(now, data) {
					t.Fatal("pong")
				}
				out = false
			}
			if r.Intn(4) == 0 {
				continue
			}
			what, s := b.Step(now)
			if (what == Lost) != (out && now-since >= wait) {
				t.Fatal("lost", now, since, wait)
			}
			if what == Lost {
				break
			}
			if what == Ping {
				out, since, data = true, now, s
			}
		}
	}
}
