package fault

import (
	"testing"

	"paternoster/api"
	"paternoster/frame"
)

// want: of each kind its code, below 0 of a stream.
var want = [21]int{
	1, 1, 1, -7, -7, 1, -1, -5, -3, 3, -9, -1, 1, -3, 3, 1, 4, 3, 11, 10, 12,
}

// P21.1
func TestCode(t *testing.T) {
	for what, c := range want {
		f := Fault{What: what, Stream: 3}
		if n, e := Code(f); n != max(c, -c) || e != api.OK || Whole(f) != (c > 0) {
			t.Error(what, n)
		}
		f.Own = 6
		if n, _ := Code(f); what > 0 && n != max(c, -c) {
			t.Error("an own code", what, n)
		}
	}
	for own, code := range map[int]int{-1: 1, 0: 1, 1: 1, 2: 2, 6: 6, 12: 12, 13: 1, 1 << 40: 1} {
		if n, e := Code(Fault{Own: own}); n != code || e != api.OK || !Whole(Fault{Own: own}) {
			t.Error("own", own, n)
		}
	}
	for _, what := range []int{-1, 21, 1 << 40} {
		if n, e := Code(Fault{What: what, Own: 5}); n != 0 || e != api.ErrRange || !Whole(Fault{What: what}) {
			t.Error(what)
		}
	}
}

// P21.2, P21.4
func TestAnswer(t *testing.T) {
	for what, c := range want {
		f, e := Answer(Fault{What: what, Stream: 3}, 6)
		g := api.Frame{Type: api.FReset, Stream: 3, Code: -c}
		if c > 0 {
			g = api.Frame{Type: api.FGoaway, Last: 6, Code: c}
		}
		if e != api.OK || !frame.Same(f, g) || frame.Check(f) != api.OK {
			t.Error(what, f)
		}
		for _, n := range []int{-1, 0, 1, api.MaxID, api.MaxID + 1} {
			may := n >= 0 && n <= api.MaxID && (c > 0 || n > 0)
			f, e := Answer(Fault{What: what, Stream: n}, n)
			if may && (e != api.OK || frame.Check(f) != api.OK) || !may && (e != api.ErrArg || !frame.Same(f, api.Frame{})) {
				t.Error(what, n, int(e))
			}
		}
		if _, e := Answer(Fault{What: what, Stream: 3}, -1); (e == api.OK) != (c < 0) {
			t.Error("last is of the connection", what)
		}
		if _, e := Answer(Fault{What: what, Stream: -3}, 1); (e == api.OK) != (c > 0) {
			t.Error("a stream is of the stream", what)
		}
	}
	for _, what := range []int{-1, 21} {
		if f, e := Answer(Fault{What: what}, -1); e != api.ErrRange || !frame.Same(f, api.Frame{}) {
			t.Error(what)
		}
	}
	if f, _ := Answer(Fault{Own: api.FrameSize}, 0); f.Code != api.FrameSize {
		t.Error("its own code")
	}
}

// P21.3
func TestAll(t *testing.T) {
	l := All()
	if len(l) != 21 {
		t.Fatal(l)
	}
	for i, what := range l {
		if what != i {
			t.Error(l)
		}
	}
	l[0] = 9
	if All()[0] != 0 {
		t.Error("its own memory")
	}
}
