package dump

import (
	"strings"

	"paternoster/api"
)

// number reads a number; 0 of a word that is none.
func number(w string) int {
	n := 0
	for _, r := range w {
		if r < '0' || r > '9' || n > maxNumber {
			return 0
		}
		n = 10*n + int(r-'0')
	}
	return n
}

// unhex reads bytes; none of a word that is not of digits.
func unhex(w string) string {
	var out []byte
	for i := 0; i+1 < len(w); i += 2 {
		high, low := strings.IndexByte(hexDigits, w[i]), strings.IndexByte(hexDigits, w[i+1])
		if high < 0 || low < 0 {
			return ""
		}
		out = append(out, byte(high<<4|low))
	}
	return string(out)
}

// param reads a setting.
func param(w string) api.Param {
	id, value, _ := strings.Cut(w, ":")
	return api.Param{ID: number(id), Value: number(value)}
}

// reader makes the function that reads the i-th field of a line; "" behind the last one.
func reader(fields []string) func(i int) string {
	return func(i int) string {
		if i >= len(fields) {
			return ""
		}
		return fields[i]
	}
}

// typeOf tells the type of a word; -1, if there is none.
func typeOf(word string) int {
	for kind, w := range words {
		if w == word {
			return kind
		}
	}
	return -1
}

// kindOf tells the kind of a stream of its word.
func kindOf(w string) int {
	if w == wordBytes {
		return api.KBytes
	}
	return api.KItems
}

// read reads the frame of a type out of its fields; of fields that are none it tells some frame of another line.
func read(kind int, fields []string) api.Frame {
	at := reader(fields)
	num := func(i int) int { return number(at(i)) }
	f := api.Frame{Type: kind, Stream: num(0)}
	switch kind {
	case api.FData, api.FItem:
		f.Data, f.End = unhex(at(1)), at(2) == wordEnd
	case api.FOpen:
		f.Kind = kindOf(at(1))
		f.Dep = api.Dep{On: num(2), Weight: num(3), Excl: at(4) == wordAlone}
	case api.FPriority:
		f.Dep = api.Dep{On: num(1), Weight: num(2), Excl: at(3) == wordAlone}
	case api.FReset:
		f.Code = num(1)
	case api.FWindow, api.FRequest:
		f.N = num(1)
	case api.FSettings:
		f.Stream = 0
		for _, w := range fields {
			f.Params = append(f.Params, param(w))
		}
	case api.FPing, api.FPong:
		f.Stream, f.Data = 0, unhex(at(0))
	case api.FGoaway:
		f.Stream, f.Last, f.Code = 0, num(0), num(1)
	}
	return f
}

// Parse reads a frame's line.
func Parse(s string) (api.Frame, api.Errno) {
	fields := strings.Split(s, fieldBlank)
	kind := typeOf(fields[0])
	if kind < 0 {
		return api.Frame{}, api.ErrLine
	}
	f := read(kind, fields[1:])
	// Only the one line that the frame has is its line.
	if back, e := Line(f); e != api.OK || back != s {
		return api.Frame{}, api.ErrLine
	}
	return f, api.OK
}

// Lines reads frames' lines.
func Lines(s string) ([]api.Frame, int, api.Errno) {
	var l []api.Frame
	for n := 1; s != ""; n++ {
		end := strings.IndexByte(s, '\n')
		switch {
		case end < 0:
			return nil, n, api.ErrShort
		case len(l) >= api.MaxLines:
			return nil, n, api.ErrBig
		}
		f, e := Parse(s[:end])
		if e != api.OK {
			return nil, n, e
		}
		l = append(l, f)
		s = s[end+1:]
	}
	return l, 0, api.OK
}
