// Package octet is layer 1: numbers of one to four bytes, and texts, the higher byte first.
package octet

import "paternoster/api"

// Piece is a number N laid in Width bytes; if Width is 0, it is the text S.
type Piece struct {
	N, Width int
	S        string
}

// widest is the greatest width of a number.
const widest = 4

// U tells a number's piece.
func U(n, width int) Piece { return Piece{N: n, Width: width} }

// T tells a text's piece.
func T(s string) Piece { return Piece{S: s} }

// long tells how many bytes a piece has; none, if its width may not be.
func (p Piece) long() int {
	switch {
	case p.Width == 0:
		return len(p.S)
	case p.Width < 0 || p.Width > widest:
		return 0
	}
	return p.Width
}

// check tells what is wrong with a piece by itself.
func (p Piece) check() api.Errno {
	switch {
	case p.Width < 0 || p.Width > widest:
		return api.ErrArg
	case p.Width > 0 && (p.N < 0 || p.N>>(8*p.Width) != 0):
		return api.ErrRange
	}
	return api.OK
}

// Size tells how many bytes pieces have together; more than MaxText count as one more than it.
func Size(l ...Piece) int {
	sum := 0
	for _, p := range l {
		sum += min(p.long(), api.MaxText+1)
		if sum > api.MaxText {
			return api.MaxText + 1
		}
	}
	return sum
}

// Lay lays pieces, one behind the other.
func Lay(l ...Piece) (string, api.Errno) {
	for _, p := range l {
		if e := p.check(); e != api.OK {
			return "", e
		}
	}
	size := Size(l...)
	if size > api.MaxText {
		return "", api.ErrBig
	}
	out := make([]byte, 0, size)
	for _, p := range l {
		if p.Width == 0 {
			out = append(out, p.S...)
			continue
		}
		for i := range p.Width {
			out = append(out, byte(p.N>>(8*(p.Width-1-i))))
		}
	}
	return string(out), api.OK
}

// Scan is what is left of a text, and whether something was wrong.
type Scan struct {
	left string
	bad  bool
}

// Over begins to read.
func Over(s string) *Scan { return &Scan{left: s} }

// reader makes the function that reads the next bytes of a Scan, and tells whether there were so many.
func (s *Scan) reader() func(n int) (string, bool) {
	return func(n int) (string, bool) {
		if s == nil || s.bad {
			return "", false
		}
		if n < 0 || n > len(s.left) {
			s.bad = true
			return "", false
		}
		// A copy, so that a few bytes do not hold on to all of a long text.
		got := string([]byte(s.left[:n]))
		s.left = s.left[n:]
		return got, true
	}
}

// Bad tells whether something was wrong.
func (s *Scan) Bad() bool { return s == nil || s.bad }

// Left tells how many bytes are left.
func (s *Scan) Left() int {
	if s == nil {
		return 0
	}
	return len(s.left)
}

// Take takes bytes.
func (s *Scan) Take(n int) string {
	got, _ := s.reader()(n)
	return got
}

// U takes a number.
func (s *Scan) U(width int) int {
	if width < 1 || width > widest {
		// A width that may not be spoils the Scan as a text that ends too early does.
		width = -1
	}
	got, ok := s.reader()(width)
	if !ok {
		return 0
	}
	n := 0
	for i := range len(got) {
		n = n<<8 | int(got[i])
	}
	return n
}

// Rest takes all that is left.
func (s *Scan) Rest() string { return s.Take(s.Left()) }

// End tells whether all was read.
func (s *Scan) End() api.Errno {
	switch {
	case s == nil:
		return api.ErrNil
	case s.bad:
		return api.ErrShort
	case len(s.left) > 0:
		return api.ErrForm
	}
	return api.OK
}
