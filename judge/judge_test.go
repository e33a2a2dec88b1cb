package judge

import (
	"math/rand"
	"slices"
	"strconv"
	"strings"
	"testing"

	"paternoster/api"
	"paternoster/frame"
)

func conf() api.Conf {
	return api.Conf{Settings: api.Settings{Window: 64, Streams: 8, Items: 4}, SendBytes: 20, SendItems: 2}
}

var leaf = api.Dep{Weight: 16}

// heard: what happened on side 0, or 1, by an act of it.
func heard(a api.Act, t api.Told, l ...api.Move) api.Heard {
	h := api.Heard{A: a, T: t}
	h.M[a.Side] = l
	return h
}

func open(side, id, kind, strategy int) api.Heard {
	return heard(api.Act{Kind: api.XOpen, Side: side, N: kind, Code: strategy, Dep: leaf}, api.Told{N: id})
}

func sent(side, id, n int, s string, end bool) api.Heard {
	return heard(api.Act{Kind: api.XStep, Side: side}, api.Told{N: 99}, api.Move{What: api.MSent, Stream: id, N: n, S: s, End: end})
}

func came(side, id int, s string, end bool) api.Heard {
	return heard(api.Act{Kind: api.XDeliver, Side: side, N: 9}, api.Told{N: 9}, api.Move{What: api.MCame, Stream: id, N: len(s), S: s, End: end})
}

func opened(side, id, kind int) api.Heard {
	return heard(api.Act{Kind: api.XDeliver, Side: side, N: 9}, api.Told{N: 9}, api.Move{What: api.MOpened, Stream: id, N: kind})
}

func done(side, id, n int, end bool) api.Heard {
	return heard(api.Act{Kind: api.XStep, Side: side}, api.Told{}, api.Move{What: api.MDone, Stream: id, N: n, End: end})
}

func offer(side, id int, s string, e api.Errno, n int) api.Heard {
	return heard(api.Act{Kind: api.XOffer, Side: side, ID: id, S: s}, api.Told{E: e, N: n})
}

func finish(side, id int) api.Heard {
	return heard(api.Act{Kind: api.XFinish, Side: side, ID: id}, api.Told{})
}

func read(side, id, n int, s string, end bool) api.Heard {
	return heard(api.Act{Kind: api.XRead, Side: side, ID: id, N: n}, api.Told{S: s, N: len(s), End: end})
}

func item(side, id int, s string, is, end bool) api.Heard {
	return heard(api.Act{Kind: api.XItem, Side: side, ID: id}, api.Told{S: s, Is: is, End: end})
}

// story: all but the last can be; whether the last one can.
func story(t *testing.T, what string, want bool, l ...api.Heard) *Judge {
	t.Helper()
	j := New(conf(), conf())
	for i, h := range l {
		if ok := j.Hear(h); ok != (want || i < len(l)-1) {
			t.Errorf("%s: act %d: %t", what, i, ok)
		}
	}
	return j
}

// P30.1: what happens.
func TestMoves(t *testing.T) {
	story(t, "opened", true, opened(1, 1, api.KBytes), opened(0, 2, api.KItems))
	story(t, "opened twice", false, opened(1, 1, api.KBytes), opened(1, 1, api.KBytes))
	story(t, "opened by itself", false, open(1, 2, 1, 0), opened(1, 2, api.KBytes))
	story(t, "opened anew", false, opened(1, 1, api.KBytes), done(1, 1, 8, false), opened(1, 1, api.KBytes))
	story(t, "no kind", false, opened(1, 1, 3))
	story(t, "no seat", false, sent(0, 1, 0, "", true))
	story(t, "sent", true, open(0, 1, 1, 0), offer(0, 1, "abc", 0, 3), sent(0, 1, 2, "ab", false))
	story(t, "sent other data", false, open(0, 1, 1, 0), offer(0, 1, "abc", 0, 3), sent(0, 1, 2, "ac", false))
	story(t, "sent another number", false, open(0, 1, 1, 0), offer(0, 1, "abc", 0, 3), sent(0, 1, 3, "ab", false))
	story(t, "sent an item", true, open(0, 1, 2, 0), offer(0, 1, "abc", 0, 1), finish(0, 1), sent(0, 1, 1, "abc", false), sent(0, 1, 0, "", true))
	story(t, "sent an item of 3", false, open(0, 1, 2, 0), offer(0, 1, "abc", 0, 1), sent(0, 1, 3, "abc", false))
	story(t, "sent an end of 1", false, open(0, 1, 2, 0), finish(0, 1), sent(0, 1, 1, "", true))
	begin := []api.Heard{open(0, 1, 1, 0), opened(1, 1, 1), offer(0, 1, "abc", 0, 3), finish(0, 1), sent(0, 1, 2, "ab", false), sent(0, 1, 1, "c", true)}
	more := func(l ...api.Heard) []api.Heard { return append(slices.Clone(begin), l...) }
	story(t, "came", true, more(came(1, 1, "ab", false), came(1, 1, "c", true))...)
	story(t, "came in other pieces", false, more(came(1, 1, "abc", true))...)
	story(t, "came too early", false, more(came(1, 1, "c", true))...)
	story(t, "came to nobody", false, more(done(1, 1, 8, false), came(1, 1, "ab", false))...)
	story(t, "came behind the end", false, more(came(1, 1, "ab", false), came(1, 1, "c", true), came(1, 1, "", false))...)
	story(t, "came back", false, more(came(0, 1, "ab", false))...)
	all := more(came(1, 1, "ab", false), came(1, 1, "c", true))
	with := func(l ...api.Heard) []api.Heard { return append(slices.Clone(all), l...) }
	story(t, "done, not ended", false, with(done(1, 1, 0, true))...)
	story(t, "done, not read", false, with(finish(1, 1), sent(1, 1, 0, "", true), done(1, 1, 0, true))...)
	story(t, "done", true, with(finish(1, 1), sent(1, 1, 0, "", true), read(1, 1, 9, "abc", true), done(1, 1, 0, true))...)
	story(t, "done by a code", false, with(finish(1, 1), sent(1, 1, 0, "", true), read(1, 1, 9, "abc", true), done(1, 1, 8, true))...)
	story(t, "done by a reset", true, with(done(1, 1, 8, false), done(0, 1, 0, false))...)
	story(t, "done, its other side going on", false, with(done(0, 1, 0, true))...)
	story(t, "done twice", false, with(done(1, 1, 8, false), done(1, 1, 8, false))...)
	story(t, "no such move", false, heard(api.Act{Kind: api.XStep}, api.Told{}, api.Move{What: 5, Stream: 1}))
	story(t, "no such move of a seat", false, open(0, 1, 1, 0), heard(api.Act{Kind: api.XStep}, api.Told{}, api.Move{What: 5, Stream: 1}))
	h := open(0, 1, 1, 0)
	h.M[1] = []api.Move{{What: api.MOpened, Stream: 1, N: 1}}
	story(t, "on the other side", false, h)
}

// P30.1: whoever is harmed.
func TestHarmed(t *testing.T) {
	inject := heard(api.Act{Kind: api.XInject, Side: 1, S: "x"}, api.Told{})
	full := heard(api.Act{Kind: api.XInject, Side: 1, S: "x"}, api.Told{E: api.ErrFull})
	story(t, "harmed", true, inject, opened(1, 1, 1), came(1, 1, "zz", true), read(1, 1, 9, "zz", true))
	story(t, "harmed, other data", false, inject, opened(1, 1, 1), came(1, 1, "zz", true), read(1, 1, 9, "z", true))
	story(t, "harmed, behind the end", false, inject, opened(1, 1, 1), came(1, 1, "zz", true), came(1, 1, "", true))
	story(t, "nothing was injected", false, full, opened(1, 1, 1), came(1, 1, "zz", true))
	story(t, "the other side is not harmed", false, inject, opened(0, 2, 1), came(0, 2, "zz", true))
	story(t, "an item and the end", true, inject, opened(1, 1, 2), came(1, 1, "i", true), item(1, 1, "i", true, true))
	story(t, "the end alone", true, inject, opened(1, 1, 2), came(1, 1, "", true), item(1, 1, "", false, true))
	story(t, "an empty item", true, inject, opened(1, 1, 2), came(1, 1, "", false), item(1, 1, "", true, false))
	lost := heard(api.Act{Kind: api.XStep, Side: 0}, api.Told{E: api.ErrFull, N: 9})
	back := heard(api.Act{Kind: api.XStep, Side: 1}, api.Told{E: api.ErrFull, N: 9})
	story(t, "what was lost, the other way", true, back, opened(0, 2, 1), came(0, 2, "zz", true))
	story(t, "what was lost, this way", false, back, opened(1, 1, 1), came(1, 1, "zz", true))
	story(t, "what was lost", true, lost, opened(1, 1, 1), came(1, 1, "zz", true))
}

// P30.1: what is answered of streams.
func TestAnswers(t *testing.T) {
	act := func(kind, id, n, code int, e api.Errno) api.Heard {
		return heard(api.Act{Kind: kind, ID: id, N: n, Code: code, Dep: leaf}, api.Told{E: e})
	}
	errors := []api.Errno{0, 1, 2, 3, 4, 5, 6, 7, 8, 9, 10, 11, 12, 13, 14, 15, 16, 30}
	check := func(what string, begin []api.Heard, a api.Act, can ...api.Errno) {
		t.Helper()
		for _, e := range errors {
			l := append(slices.Clone(begin), heard(a, api.Told{E: e}))
			story(t, what+" "+strconv.Itoa(int(e)), slices.Contains(can, e), l...)
			if e != api.OK {
				l[len(l)-1].T.S = "x"
				story(t, what+" with data", false, l...)
			}
		}
	}
	none := []api.Heard{}
	for k := api.XOffer; k <= api.XReset; k++ {
		check("never", none, api.Act{Kind: k, ID: 1}, api.ErrNone)
		check("never, the other side's", none, api.Act{Kind: k, ID: 2}, api.ErrNone, api.ErrClosed)
		check("never, none", none, api.Act{Kind: k, ID: 0}, api.ErrNone)
		check("once", []api.Heard{open(0, 1, 1, 0), act(api.XReset, 1, 0, 8, 0), done(0, 1, 8, false)}, api.Act{Kind: k, ID: 1}, api.ErrClosed)
	}
	check("never, the greatest", none, api.Act{Kind: api.XOffer, ID: api.MaxID - 1}, api.ErrNone, api.ErrClosed)
	check("never, too great", none, api.Act{Kind: api.XOffer, ID: api.MaxID + 1}, api.ErrNone)
	check("never, of side 1", none, api.Act{Kind: api.XOffer, Side: 1, ID: api.MaxID}, api.ErrNone, api.ErrClosed)
	check("never, of side 1", none, api.Act{Kind: api.XOffer, Side: 1, ID: 2}, api.ErrNone)
	bytes, items := []api.Heard{open(0, 1, 1, 0)}, []api.Heard{open(0, 1, 2, 1)}
	check("read items", items, api.Act{Kind: api.XRead, ID: 1}, api.ErrKind)
	check("item of bytes", bytes, api.Act{Kind: api.XItem, ID: 1}, api.ErrKind)
	check("ask bytes", bytes, api.Act{Kind: api.XAsk, ID: 1, N: 0}, api.ErrKind)
	check("ask for none", items, api.Act{Kind: api.XAsk, ID: 1, N: 0}, api.ErrArg)
	check("ask", items, api.Act{Kind: api.XAsk, ID: 1, N: 1}, api.OK)
	check("move", bytes, api.Act{Kind: api.XMove, ID: 1}, api.OK, api.ErrArg, api.ErrCycle, api.ErrFull)
	check("reset", bytes, api.Act{Kind: api.XReset, ID: 1}, api.OK, api.ErrArg, api.ErrFull)
	check("goaway", none, api.Act{Kind: api.XGoaway}, api.OK, api.ErrState, api.ErrFull)
	check("settings", none, api.Act{Kind: api.XSettings}, api.OK, api.ErrRange, api.ErrLimit, api.ErrFull)
	check("open", bytes, api.Act{Kind: api.XOpen, N: 1}, api.OK, api.ErrKind, api.ErrArg, api.ErrRefused, api.ErrLimit, api.ErrCycle, api.ErrFull)
	check("finish", bytes, api.Act{Kind: api.XFinish, ID: 1}, api.OK)
	check("finish again", append(bytes, finish(0, 1)), api.Act{Kind: api.XFinish, ID: 1}, api.ErrState)
	out := append(bytes, finish(0, 1), sent(0, 1, 0, "", true))
	check("the end is out", out, api.Act{Kind: api.XFinish, ID: 1}, api.ErrClosed)
	check("the end is out", out, api.Act{Kind: api.XOffer, ID: 1}, api.ErrClosed)
	for _, k := range []int{api.XStep, api.XDeliver, api.XTick, api.XInject} {
		for _, e := range errors {
			story(t, "machine", e == api.OK || e == api.ErrFull, heard(api.Act{Kind: k}, api.Told{E: e, N: 5}))
		}
	}
}

// P30.1: what is answered, and told with it.
func TestData(t *testing.T) {
	story(t, "a stream that was there", false, open(0, 1, 1, 0), open(0, 1, 1, 0))
	story(t, "no kind", false, open(0, 1, 5, 0))
	story(t, "no strategy", false, open(0, 1, 2, 5))
	story(t, "offer", true, open(0, 1, 1, 0), offer(0, 1, strings.Repeat("x", 30), 0, 20), offer(0, 1, "x", 0, 0))
	story(t, "offer more", false, open(0, 1, 1, 0), offer(0, 1, strings.Repeat("x", 30), 0, 30))
	story(t, "strategy", true, open(0, 1, 2, 2), offer(0, 1, "a", 0, 1), offer(0, 1, "b", 0, 1), offer(0, 1, "c", 0, 3), sent(0, 1, 1, "b", false))
	story(t, "of its Conf", true, opened(0, 2, 2), offer(0, 2, "a", 0, 1), offer(0, 2, "b", 0, 1), offer(0, 2, "c", api.ErrFull, 0))
	story(t, "full", false, opened(0, 2, 2), offer(0, 2, "a", 0, 1), offer(0, 2, "b", 0, 1), offer(0, 2, "c", 0, 3))
	begin := []api.Heard{open(0, 1, 1, 0), opened(1, 1, 1), offer(0, 1, "abcde", 0, 5), finish(0, 1), sent(0, 1, 5, "abcde", true), came(1, 1, "abcde", true)}
	with := func(l ...api.Heard) []api.Heard { return append(slices.Clone(begin), l...) }
	story(t, "read", true, with(read(1, 1, 2, "ab", false), read(1, 1, -1, "", false), read(1, 1, 9, "cde", true), read(1, 1, 9, "", true))...)
	story(t, "read less", false, with(read(1, 1, 2, "a", false))...)
	story(t, "read other data", false, with(read(1, 1, 2, "ac", false))...)
	story(t, "read the end too early", false, with(read(1, 1, 2, "ab", true))...)
	story(t, "read no end", false, with(read(1, 1, 5, "abcde", false))...)
	h := read(1, 1, 5, "abcde", true)
	h.T.N = 4
	story(t, "read another number", false, with(h)...)
	story(t, "item", true, open(0, 1, 2, 0), opened(1, 1, 2), offer(0, 1, "i", 0, 1), finish(0, 1), sent(0, 1, 1, "i", false), came(1, 1, "i", false), item(1, 1, "i", true, false), item(1, 1, "", false, false), sent(0, 1, 0, "", true), came(1, 1, "", true), item(1, 1, "", false, true))
	story(t, "item twice", false, open(0, 1, 2, 0), opened(1, 1, 2), offer(0, 1, "i", 0, 1), sent(0, 1, 1, "i", false), came(1, 1, "i", false), item(1, 1, "i", true, false), item(1, 1, "i", true, false))
}

// P30.1: whoever is closed, and acts of nobody.
func TestClosed(t *testing.T) {
	end := heard(api.Act{Kind: api.XStep}, api.Told{})
	end.Closed[0] = true
	then := func(a api.Act, told api.Told) api.Heard {
		h := heard(a, told)
		h.Closed[0] = true
		return h
	}
	for k := api.XOpen; k <= api.XInject; k++ {
		for _, e := range []api.Errno{0, 2, 7, 9, 14} {
			want := e == api.ErrClosed
			switch k {
			case api.XStep, api.XInject:
				want = true
			case api.XTick:
				want = e == api.OK
			}
			story(t, "closed "+strconv.Itoa(k), want, end, then(api.Act{Kind: k, ID: 1, N: 1}, api.Told{E: e}))
		}
	}
	story(t, "a delivery that is late", true, end, then(api.Act{Kind: api.XDeliver, N: 7}, api.Told{E: api.ErrClosed, N: 7}))
	story(t, "the other side", true, end, func() api.Heard { h := open(1, 2, 1, 0); h.Closed[0] = true; return h }())
	story(t, "not closed any more", false, end, heard(api.Act{Kind: api.XStep}, api.Told{}))
	for _, k := range []int{0, -1, 15} {
		story(t, "no kind", true, api.Heard{A: api.Act{Kind: k, Side: 5}, T: api.Told{E: api.ErrArg}})
		story(t, "no kind", false, api.Heard{A: api.Act{Kind: k}, T: api.Told{}})
	}
	for _, h := range []api.Heard{{A: api.Act{Kind: 99}, T: api.Told{E: api.ErrArg}}, {A: api.Act{Kind: api.XOpen, Side: 2}, T: api.Told{E: api.ErrRange}}, {A: api.Act{Kind: api.XTick, Side: 2}}} {
		story(t, "of nobody", true, h)
		for side := range 2 {
			m := h
			m.M[side] = []api.Move{{What: api.MOpened, Stream: 2 - side, N: 1}}
			story(t, "nothing happens of nobody", false, m)
			m = h
			m.Closed[side] = true
			story(t, "closed by nobody", true, m)
			story(t, "open again by nobody", false, m, h)
		}
	}
	for _, side := range []int{-1, 2} {
		story(t, "no side", true, api.Heard{A: api.Act{Kind: api.XOpen, Side: side}, T: api.Told{E: api.ErrRange}})
		story(t, "no side", false, api.Heard{A: api.Act{Kind: api.XOpen, Side: side}, T: api.Told{N: 1}})
		story(t, "a tick of no side", true, api.Heard{A: api.Act{Kind: api.XTick, Side: side}, T: api.Told{N: 1}})
	}
	if (*Judge)(nil).Hear(end) {
		t.Error("nil")
	}
}

// P30.2
func TestWatch(t *testing.T) {
	bad := conf()
	bad.Strategy = 9
	if w, e := Over(conf(), bad); w != nil || e != api.ErrArg {
		t.Error(int(e))
	}
	w, e := Over(conf(), conf())
	if e != api.OK || w.Duplex() == nil || w.Judge() == nil {
		t.Fatal(int(e))
	}
	for i, c := range []struct {
		a api.Act
		t api.Told
	}{
		{api.Act{Kind: api.XOpen, N: 1, Dep: leaf}, api.Told{N: 1}},
		{api.Act{Kind: api.XOpen, N: 2, Dep: leaf}, api.Told{N: 3}},
		{api.Act{Kind: api.XOffer, ID: 1, S: "abc"}, api.Told{N: 3}},
		{api.Act{Kind: api.XStep}, api.Told{N: 9 + 17 + 17 + 12}},
		{api.Act{Kind: api.XDeliver, Side: 1, N: 900}, api.Told{N: 55}},
		{api.Act{Kind: api.XRead, Side: 1, ID: 1, N: 2}, api.Told{S: "ab", N: 2}},
	} {
		if told, ok := w.Do(c.a); told != c.t || !ok {
			t.Error(i, told, ok)
		}
	}
	j := w.Judge()
	if !slices.Equal(j.Seats(0), []int{1, 3}) || !slices.Equal(j.Seats(1), []int{1, 3}) || len(j.Seats(2)) != 0 || j.Flow(0, 1).Kind() != api.KBytes || j.Flow(1, 3).Kind() != api.KItems || j.Flow(0, 2) != nil || j.Flow(-1, 1) != nil {
		t.Error("looks")
	}
	if a, d, told := j.Flow(0, 1).Counts(); a != 3 || d != 0 || told != 2 {
		t.Error("counts", a, d, told)
	}
	w.Do(api.Act{Kind: api.XOffer, ID: 3, S: "i"})
	for _, a := range []api.Act{{Kind: api.XAsk, Side: 1, ID: 3, N: 2}, {Kind: api.XStep, Side: 1}, {Kind: api.XDeliver, N: 900}, {Kind: api.XStep}, {Kind: api.XDeliver, Side: 1, N: 900}, {Kind: api.XItem, Side: 1, ID: 3}} {
		if told, ok := w.Do(a); !ok {
			t.Error(told)
		}
	}
	if a, d, told := j.Flow(0, 3).Counts(); a != 1 || d != 0 || told != 1 {
		t.Error("counts", a, d, told)
	}
	var none *Watch
	if told, ok := none.Do(api.Act{Kind: api.XTick}); told != (api.Told{E: api.ErrNil}) || ok || none.Duplex() != nil || none.Judge() != nil {
		t.Error("nil")
	}
	var nobody *Judge
	if len(nobody.Seats(0)) != 0 || nobody.Flow(0, 1) != nil {
		t.Error("nil")
	}
}

// anyAct: acts, as anybody may do.
func anyAct(r *rand.Rand, harm bool) api.Act {
	kinds := []int{1, 1, 2, 2, 2, 2, 3, 4, 4, 4, 5, 5, 5, 6, 6, 7, 8, 10, 11, 11, 11, 11, 12, 12, 12, 12, 13}
	a := api.Act{
		Kind: kinds[r.Intn(len(kinds))], Side: r.Intn(2), ID: 1 + r.Intn(8), N: 1 + r.Intn(90), Code: r.Intn(3), S: strings.Repeat(strconv.Itoa(r.Intn(9)), r.Intn(50)),
		Dep: api.Dep{On: r.Intn(7), Weight: 1 + r.Intn(256), Excl: r.Intn(3) == 0}, Settings: api.Settings{Window: r.Intn(99), Streams: r.Intn(8), Items: r.Intn(5)},
	}
	if a.Kind == api.XOpen {
		a.N = 1 + r.Intn(2)
	}
	switch r.Intn(200) {
	case 0:
		a.Kind = api.XGoaway
	case 1:
		a = api.Act{Kind: r.Intn(20) - 2, Side: r.Intn(5) - 1, ID: r.Intn(5) - 2, N: r.Intn(9) - 4, Code: -1}
	case 2, 3:
		if harm {
			a.Kind = api.XInject
			a.S, _ = frame.All(api.Frame{Type: r.Intn(2), Stream: 1 + r.Intn(8), Data: a.S, End: r.Intn(2) == 0}, api.Frame{Type: api.FWindow, Stream: r.Intn(8), N: r.Intn(90)})
			if r.Intn(3) == 0 {
				a.S, _ = frame.Put(api.Frame{Type: api.FOpen, Stream: 1 + r.Intn(20), Kind: 1 + r.Intn(2), Dep: leaf})
			} else if r.Intn(9) == 0 {
				a.S += "x"
			}
		}
	}
	return a
}

// P30.3
func TestNever(t *testing.T) {
	r := rand.New(rand.NewSource(1))
	for round := range 400 {
		c, d := conf(), conf()
		c.Strategy, d.Strategy = r.Intn(3), r.Intn(3)
		if round%4 == 0 {
			c.Every, c.Wait, d.Stall = 9, 9, 9
		}
		w, _ := Over(c, d)
		for range 400 {
			a := anyAct(r, round%2 == 1)
			if told, ok := w.Do(a); !ok {
				t.Fatal(round, a, told, w.Duplex().Moves(0), w.Duplex().Moves(1))
			}
		}
		for side := range 2 {
			if !slices.Equal(w.Judge().Seats(side), w.Duplex().Conn(side).IDs()) && len(w.Duplex().Conn(side).IDs())+len(w.Judge().Seats(side)) > 0 {
				t.Fatal("seats", w.Judge().Seats(side), w.Duplex().Conn(side).IDs())
			}
		}
	}
}

// P30.4
func TestHears(t *testing.T) {
	r := rand.New(rand.NewSource(2))
	changed := 0
	for range 300 {
		w, _ := Over(conf(), conf())
		j := New(conf(), conf())
		for range 300 {
			a := anyAct(r, false)
			h := api.Heard{A: a}
			h.T, _ = w.Do(a)
			for side := range 2 {
				h.M[side] = w.Duplex().Moves(side)
				h.Closed[side] = w.Duplex().Conn(side).Status().Closed
			}
			if h.T.S != "" && r.Intn(4) == 0 {
				b := []byte(h.T.S)
				b[r.Intn(len(b))]++
				h.T.S = string(b)
				changed++
				if j.Hear(h) {
					t.Fatal("other data", h.T)
				}
				break
			}
			if !j.Hear(h) {
				t.Fatal(h)
			}
		}
	}
	if changed < 50 {
		t.Error("too few", changed)
	}
}
