package chunk

import (
	"math/rand"
	"slices"
	"strings"
	"testing"

	"paternoster/api"
)

// P37.1
func TestCut(t *testing.T) {
	for i, c := range []struct {
		s    string
		size int
		want []string
	}{
		{"abcde", 3, []string{"\x01ab", "\x01cd", "\x00e"}}, {"abcd", 3, []string{"\x01ab", "\x00cd"}}, {"", 2, []string{"\x00"}}, {"a", 2, []string{"\x00a"}}, {"ab", 2, []string{"\x01a", "\x00b"}}, {"abc", 256, []string{"\x00abc"}},
	} {
		if l, e := Cut(c.s, c.size); !slices.Equal(l, c.want) || e != api.OK || Many(len(c.s), c.size) != len(c.want) {
			t.Error(i, l)
		}
	}
	big := strings.Repeat("x", 1<<16)
	if l, e := Cut(big, 256); len(l) != 258 || e != api.OK || Many(1<<16, 256) != 258 || Many(1<<16, 2) != 1<<16 {
		t.Error("the longest one", len(l))
	}
	for _, size := range []int{-1, 0, 1, 257, 1 << 40} {
		if l, e := Cut(big+"x", size); l != nil || e != api.ErrArg || Many(3, size) != 0 {
			t.Error(size)
		}
	}
	if l, e := Cut(big+"x", 9); l != nil || e != api.ErrBig || Many(1<<16+1, 9) != 0 || Many(-1, 9) != 0 {
		t.Error("big")
	}
}

func add(t *testing.T, j *Joiner, item, want string, is bool, e api.Errno) {
	t.Helper()
	if s, ok, err := j.Add(item); s != want || ok != is || err != e {
		t.Errorf("%q: %q %t %d", item, s, ok, int(err))
	}
}

// P37.2
func TestJoiner(t *testing.T) {
	for _, n := range []int{-1, 1<<16 + 1} {
		if j, e := New(n); j != nil || e != api.ErrRange {
			t.Error(n)
		}
	}
	j, e := New(5)
	if e != api.OK || j.Kept() != 0 || j.Broken() {
		t.Fatal(int(e))
	}
	add(t, j, "\x01abc", "", false, api.OK)
	if j.Kept() != 3 {
		t.Error(j.Kept())
	}
	add(t, j, "\x01", "", false, api.OK)
	add(t, j, "\x00de", "abcde", true, api.OK)
	add(t, j, "\x00", "", true, api.OK)
	add(t, j, "\x01abc", "", false, api.OK)
	add(t, j, "\x00def", "", false, api.ErrBig)
	if !j.Broken() || j.Kept() != 0 {
		t.Error("broken")
	}
	add(t, j, "\x00", "", false, api.ErrState)
	add(t, j, "", "", false, api.ErrState)
	for _, item := range []string{"", "\x02abcdefgh", "a"} {
		k, _ := New(5)
		add(t, k, "\x01ab", "", false, api.OK)
		add(t, k, item, "", false, api.ErrForm)
		if !k.Broken() || k.Kept() != 0 {
			t.Error("broken")
		}
	}
	nought, _ := New(0)
	add(t, nought, "\x01", "", false, api.OK)
	add(t, nought, "\x00", "", true, api.OK)
	add(t, nought, "\x01a", "", false, api.ErrBig)
	var none *Joiner
	add(t, none, "", "", false, api.ErrNil)
	if !none.Broken() || none.Kept() != 0 {
		t.Error("nil")
	}
}

// P37.3
func TestBack(t *testing.T) {
	r := rand.New(rand.NewSource(1))
	j, _ := New(1000)
	for range 500 {
		s := strings.Repeat("abc", r.Intn(333))[:]
		l, e := Cut(s, 2+r.Intn(255))
		if e != api.OK {
			t.Fatal(int(e))
		}
		for i, item := range l {
			got, is, e := j.Add(item)
			if e != api.OK || is != (i == len(l)-1) || is && got != s || !is && got != "" {
				t.Fatal(i, int(e))
			}
		}
	}
}
