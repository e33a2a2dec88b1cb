package link

import (
	"math/rand"
	"strconv"
	"strings"
	"testing"

	"paternoster/api"
)

func made(t *testing.T, limit int) *Link {
	t.Helper()
	l, e := New(limit)
	if e != api.OK || l.Len() != 0 {
		t.Fatal(limit, int(e))
	}
	return l
}

func total(l *Link) [2]int {
	a, b := l.Total()
	return [2]int{a, b}
}

// P27.1
func TestNew(t *testing.T) {
	made(t, 0)
	made(t, api.MaxLink)
	for _, n := range []int{-1, api.MaxLink + 1} {
		if l, e := New(n); l != nil || e != api.ErrRange {
			t.Error(n)
		}
	}
}

// P27.2
func TestPushPull(t *testing.T) {
	l := made(t, 5)
	if l.Push("abc") != api.OK || l.Push("def") != api.ErrFull || l.Ahead("def") != api.ErrFull || l.Len() != 3 {
		t.Error("full")
	}
	if l.Pull(2) != "ab" || l.Ahead("x") != api.OK || l.Push("yz") != api.OK || l.Push("") != api.OK || l.Ahead("q") != api.OK || l.Push("r") != api.ErrFull || l.Push("") != api.OK {
		t.Error("ahead")
	}
	if l.Pull(-1) != "" || l.Pull(0) != "" || l.Pull(2) != "qx" || l.Pull(1<<62) != "cyz" || l.Pull(1) != "" {
		t.Error("pull")
	}
	none := made(t, 0)
	if none.Push("a") != api.ErrFull || none.Ahead("a") != api.ErrFull || none.Push("") != api.OK {
		t.Error("no room")
	}
	big := made(t, api.MaxLink)
	if big.Push(strings.Repeat("x", api.MaxLink)) != api.OK || big.Ahead("x") != api.ErrFull || big.Len() != api.MaxLink {
		t.Error("all of it")
	}
}

// P27.3
func TestLooks(t *testing.T) {
	l := made(t, 5)
	l.Push("abc")
	l.Ahead("de")
	l.Push("no")
	l.Pull(4)
	if l.Len() != 1 || total(l) != [2]int{5, 4} {
		t.Error(total(l))
	}
	var none *Link
	if none.Push("") != api.ErrNil || none.Ahead("") != api.ErrNil || none.Pull(1) != "" || none.Len() != 0 || total(none) != [2]int{} {
		t.Error("nil")
	}
}

// P27.4
func TestOrder(t *testing.T) {
	r := rand.New(rand.NewSource(1))
	for range 100 {
		l := made(t, r.Intn(40))
		pushed, pulled := "", ""
		for i := range 100 {
			if r.Intn(2) == 0 {
				s := strconv.Itoa(i)
				if l.Push(s) == api.OK {
					pushed += s
				}
			} else {
				pulled += l.Pull(r.Intn(6))
			}
			if !strings.HasPrefix(pushed, pulled) || l.Len() != len(pushed)-len(pulled) || total(l) != [2]int{len(pushed), len(pulled)} {
				t.Fatal(pushed, pulled)
			}
		}
	}
}
