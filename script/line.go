// Package script is layer 31: acts as lines of text, and scripts that are played.
package script

import (
	"strconv"
	"strings"

	"paternoster/api"
)

// maxText is how many bytes a text of a line has at most.
const maxText = 600

// Letters of fields; those of numbers stand in number.
const (
	text  = 't'
	truth = 'x'
)

// shape is an act's word, and its fields, a letter each.
type shape struct {
	word, fields string
}

var shapes = [...]shape{
	api.XOpen:     {"open", "sncowx"},
	api.XOffer:    {"offer", "sit"},
	api.XFinish:   {"finish", "si"},
	api.XRead:     {"read", "sin"},
	api.XItem:     {"item", "si"},
	api.XAsk:      {"ask", "sin"},
	api.XMove:     {"move", "siowx"},
	api.XReset:    {"reset", "sic"},
	api.XGoaway:   {"goaway", "s"},
	api.XSettings: {"settings", "sWSI"},
	api.XStep:     {"step", "s"},
	api.XDeliver:  {"deliver", "sn"},
	api.XTick:     {"tick", ""},
	api.XInject:   {"inject", "st"},
}

// number tells where an act has the number of a letter.
func number(a *api.Act, letter byte) *int {
	switch letter {
	case 's':
		return &a.Side
	case 'i':
		return &a.ID
	case 'n':
		return &a.N
	case 'c':
		return &a.Code
	case 'o':
		return &a.On
	case 'w':
		return &a.Weight
	case 'W':
		return &a.Window
	case 'S':
		return &a.Streams
	}
	return &a.Items
}

// plain tells whether a byte stands in a text as it is.
func plain(c byte) bool {
	return c >= 'a' && c <= 'z' || c >= 'A' && c <= 'Z' || c >= '0' && c <= '9' || c == '-' || c == '_'
}

// digits are those of bytes that do not stand as they are.
const digits = "0123456789ABCDEF"

// laid tells a text as one word.
func laid(s string) string {
	if s == "" {
		return "."
	}
	var out []byte
	for i := range len(s) {
		if c := s[i]; plain(c) {
			out = append(out, c)
		} else {
			out = append(out, '%', digits[c>>4], digits[c&15])
		}
	}
	return string(out)
}

// unlaid reads a word as a text; of a word that is none it tells some text that is laid otherwise.
func unlaid(w string) string {
	var out []byte
	for i := 0; i < len(w); i++ {
		if w[i] == '%' && i+2 < len(w) {
			high, low := strings.IndexByte(digits, w[i+1]), strings.IndexByte(digits, w[i+2])
			if high >= 0 && low >= 0 {
				out = append(out, byte(high<<4|low))
				i += 2
				continue
			}
		}
		if w != "." {
			out = append(out, w[i])
		}
	}
	return string(out)
}

// bit tells a truth's number.
func bit(b bool) int {
	if b {
		return 1
	}
	return 0
}

// line is words with one blank between.
type line struct {
	words []string
}

// adder makes the function that adds numbers to a line.
func (l *line) adder() func(numbers ...int) {
	return func(numbers ...int) {
		for _, n := range numbers {
			l.words = append(l.words, strconv.Itoa(n))
		}
	}
}

// told tells the line.
func (l *line) told() string { return strings.Join(l.words, " ") }

// Line tells an act's line.
func Line(a api.Act) (string, api.Errno) {
	if a.Kind < api.XOpen || a.Kind > api.XInject || len(a.S) > maxText {
		return "", api.ErrLine
	}
	sh := shapes[a.Kind]
	l := &line{words: []string{sh.word}}
	add := l.adder()
	named := api.Act{Kind: a.Kind}
	for i := range len(sh.fields) {
		switch c := sh.fields[i]; c {
		case text:
			named.S = a.S
			l.words = append(l.words, laid(a.S))
		case truth:
			named.Excl = a.Excl
			add(bit(a.Excl))
		default:
			n := *number(&a, c)
			*number(&named, c) = n
			add(n)
		}
	}
	if named != a {
		return "", api.ErrLine
	}
	return l.told(), api.OK
}

// kindOf tells the kind of acts of a word; 0, if there is none.
func kindOf(word string) int {
	for kind, sh := range shapes {
		if kind > 0 && sh.word == word {
			return kind
		}
	}
	return 0
}

// Parse reads an act's line.
func Parse(s string) (api.Act, api.Errno) {
	words := strings.Split(s, " ")
	kind := kindOf(words[0])
	fields := shapes[kind].fields
	if kind == 0 || len(words) != len(fields)+1 {
		return api.Act{}, api.ErrLine
	}
	a := api.Act{Kind: kind}
	for i := range len(fields) {
		w := words[i+1]
		switch c := fields[i]; c {
		case text:
			a.S = unlaid(w)
		case truth:
			a.Excl = w == "1"
		default:
			n, err := strconv.Atoi(w)
			if err != nil {
				return api.Act{}, api.ErrLine
			}
			*number(&a, c) = n
		}
	}
	// Only the one line that the act has is its line.
	if back, e := Line(a); e != api.OK || back != s {
		return api.Act{}, api.ErrLine
	}
	return a, api.OK
}
