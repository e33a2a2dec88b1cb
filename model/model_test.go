package model

import (
	"math/rand"
	"strconv"
	"strings"
	"testing"

	"paternoster/api"
)

func made(t *testing.T, kind, capacity, strategy int) *Flow {
	t.Helper()
	f, e := New(kind, capacity, strategy)
	if e != api.OK || f.Kind() != kind || f.Done() || f.Out() {
		t.Fatal(kind, capacity, strategy, int(e))
	}
	return f
}

func rows(f *Flow) [3]int {
	a, b, c := f.Rows()
	return [3]int{a, b, c}
}

func counts(f *Flow) [3]int {
	a, b, c := f.Counts()
	return [3]int{a, b, c}
}

// P29.1
func TestNew(t *testing.T) {
	made(t, api.KBytes, 4096, 99)
	made(t, api.KItems, 64, 2)
	for i, c := range []struct {
		kind, n, s int
		e          api.Errno
	}{
		{0, -1, 9, api.ErrKind}, {3, 0, 0, api.ErrKind}, {1, -1, 0, api.ErrRange}, {1, 4097, 0, api.ErrRange}, {2, 65, 9, api.ErrRange}, {2, -1, 0, api.ErrRange},
		{2, 1, 3, api.ErrArg}, {2, 1, -1, api.ErrArg},
	} {
		if f, e := New(c.kind, c.n, c.s); f != nil || e != c.e {
			t.Error(i, int(e))
		}
	}
}

// P29.2
func TestOffer(t *testing.T) {
	b := made(t, api.KBytes, 4, 0)
	for i, c := range []struct {
		s    string
		want int
	}{{"abc", 3}, {"", 0}, {"def", 1}, {"x", 0}} {
		if n, e := b.Offer(c.s); n != c.want || e != api.OK {
			t.Error(i, n)
		}
	}
	long := strings.Repeat("x", 257)
	for _, c := range []struct {
		n, s     int
		verdicts []int
		counts   [3]int
	}{{1, 0, []int{1, 0}, [3]int{1, 0, 0}}, {1, 1, []int{1, 2}, [3]int{2, 1, 0}}, {1, 2, []int{1, 3}, [3]int{2, 1, 0}}, {0, 0, []int{0}, [3]int{}}, {0, 1, []int{2}, [3]int{1, 1, 0}}, {0, 2, []int{2}, [3]int{1, 1, 0}}} {
		f := made(t, api.KItems, c.n, c.s)
		for i, want := range c.verdicts {
			if n, e := f.Offer(long); n != 0 || e != api.ErrBig {
				t.Error("big")
			}
			n, e := f.Offer(long[:256-i])
			if n != want || want == 0 && e != api.ErrFull || want > 0 && e != api.OK {
				t.Error(c, i, n, int(e))
			}
		}
		if counts(f) != c.counts || f.Finish() != api.OK || f.Finish() != api.ErrState {
			t.Error(c, counts(f))
		}
		if n, e := f.Offer(long); n != 0 || e != api.ErrState {
			t.Error("ended")
		}
	}
	var none *Flow
	if _, e := none.Offer(""); e != api.ErrNil || none.Finish() != api.ErrNil {
		t.Error("nil")
	}
}

// P29.3
func TestSentBytes(t *testing.T) {
	f := made(t, api.KBytes, 9, 0)
	f.Offer("abcdef")
	for i, c := range []struct {
		s         string
		end, want bool
	}{{"", false, false}, {"", true, false}, {"abcdef", true, false}, {"b", false, false}, {"abcdefg", false, false}, {"ab", false, true}, {"ab", false, false}, {"cdef", false, true}} {
		if f.Sent(c.s, c.end) != c.want {
			t.Error(i)
		}
	}
	f.Offer("gh")
	f.Finish()
	for i, c := range []struct {
		s         string
		end, want bool
	}{{"g", true, false}, {"gh", false, false}, {"", true, false}, {"g", false, true}, {"h", true, true}, {"", true, false}, {"", false, false}} {
		if f.Sent(c.s, c.end) != c.want {
			t.Error("ended", i)
		}
	}
	if rows(f) != [3]int{0, 8, 0} || !f.Out() || f.Done() {
		t.Error(rows(f))
	}
	e := made(t, api.KBytes, 9, 0)
	e.Finish()
	if e.Sent("", false) || !e.Sent("", true) || e.Sent("", true) || (*Flow)(nil).Sent("", true) {
		t.Error("the end alone")
	}
}

// P29.3
func TestSentItems(t *testing.T) {
	f := made(t, api.KItems, 9, 0)
	f.Offer("a")
	f.Offer("")
	for i, c := range []struct {
		s         string
		end, want bool
	}{{"", false, false}, {"a", true, false}, {"b", false, false}, {"a", false, true}, {"a", false, false}, {"", true, false}, {"", false, true}, {"", true, false}, {"", false, false}} {
		if f.Sent(c.s, c.end) != c.want {
			t.Error(i)
		}
	}
	f.Offer("c")
	f.Finish()
	if f.Sent("", true) || f.Sent("c", true) || !f.Sent("c", false) || f.Sent("x", true) || !f.Sent("", true) || f.Sent("", true) || rows(f) != [3]int{0, 3, 0} {
		t.Error("the end", rows(f))
	}
}

// P29.4
func TestCame(t *testing.T) {
	f := made(t, api.KBytes, 9, 0)
	f.Offer("abcdef")
	f.Finish()
	f.Sent("abc", false)
	f.Sent("def", true)
	if f.Came("ab", false) || f.Came("abc", true) || f.Came("abcdef", true) || !f.Came("abc", false) || f.Came("def", false) || !f.Came("def", true) || f.Came("def", true) || rows(f) != [3]int{0, 0, 6} || f.Done() {
		t.Error(rows(f))
	}
	x := made(t, api.KItems, 9, 0)
	x.Offer("")
	x.Finish()
	x.Sent("", false)
	x.Sent("", true)
	if x.Came("", true) || !x.Came("", false) || rows(x) != [3]int{0, 0, 1} || !x.Came("", true) || rows(x) != [3]int{0, 0, 1} || !x.Out() || x.Sent("", true) {
		t.Error(rows(x))
	}
	if made(t, 1, 1, 0).Came("", true) || (*Flow)(nil).Came("", true) {
		t.Error("none")
	}
}

// P29.5, P29.6
func TestReadItem(t *testing.T) {
	f := made(t, api.KBytes, 9, 0)
	f.Offer("abcdef")
	f.Sent("abcde", false)
	f.Came("abcde", false)
	if f.Read(-1) != "" || f.Read(2) != "ab" || f.Read(1<<62) != "cde" || f.Read(1) != "" || counts(f) != [3]int{6, 0, 5} || rows(f) != [3]int{1, 0, 0} || f.Done() {
		t.Error(counts(f))
	}
	if s, is := f.Item(); s != "" || is {
		t.Error("bytes")
	}
	f.Finish()
	f.Sent("f", true)
	f.Came("f", true)
	if f.Done() || f.Read(9) != "f" || !f.Done() {
		t.Error("done")
	}
	x := made(t, api.KItems, 2, api.KeepLatest)
	for _, s := range []string{"p", "q", "r"} {
		x.Offer(s)
	}
	x.Sent("q", false)
	x.Came("q", false)
	if s, is := x.Item(); s != "q" || !is || x.Read(9) != "" || counts(x) != [3]int{3, 1, 1} {
		t.Error(s, counts(x))
	}
	if s, is := x.Item(); s != "" || is {
		t.Error("none")
	}
	var none *Flow
	if s, is := none.Item(); s != "" || is || none.Read(1) != "" || !none.Done() || none.Out() || rows(none) != [3]int{} || counts(none) != [3]int{} || none.Kind() != 0 {
		t.Error("nil")
	}
}

// P29.7, P29.8
func TestAll(t *testing.T) {
	r := rand.New(rand.NewSource(1))
	for round := range 300 {
		kind, strategy := 1+round%2, round/2%3
		f := made(t, kind, r.Intn(12), strategy)
		accepted, told, way := "", "", []piece{}
		waits := ""
		for i := range 80 {
			switch r.Intn(4) {
			case 0:
				s := strconv.Itoa(i) + "."
				n, e := f.Offer(s)
				if kind == api.KBytes {
					accepted += s[:n]
					waits += s[:n]
				} else if e == api.OK {
					accepted += s
				}
			case 1:
				p := piece{s: strconv.Itoa(r.Intn(80)) + "."}
				if kind == api.KBytes && waits != "" {
					p.s = waits[:1+r.Intn(len(waits))]
				}
				if f.Sent(p.s, p.end) {
					way = append(way, p)
					if kind == api.KBytes {
						waits = waits[len(p.s):]
					}
				}
			case 2:
				if len(way) > 0 && f.Came(way[0].s, way[0].end) {
					way = way[1:]
				}
			case 3:
				s, _ := f.Item()
				told += f.Read(r.Intn(5)) + s
			}
			c, n := counts(f), rows(f)
			if c[0] != c[1]+c[2]+n[0]+n[1]+n[2] || (kind == api.KBytes || strategy == api.OnError) && !strings.HasPrefix(accepted, told) {
				t.Fatal(c, n, accepted, told)
			}
		}
	}
}
