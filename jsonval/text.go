package jsonval

import (
	"strings"
	"unicode/utf8"

	"docket/api"
)

// The numbers that \u may only have in pairs: one of the high ones, then one of the low ones.
const (
	firstHigh = 0xd800
	firstLow  = 0xdc00
	behindLow = 0xe000
	firstPair = 0x10000 // the character of the first pair
)

// quoted reads a text, from its first " to its last.
func (r *reader) quoted() string {
	r.at++
	var b strings.Builder
	for {
		b.WriteString(r.plain())
		if r.text[r.at] == '"' {
			r.at++
			return b.String()
		}
		b.WriteRune(r.escape())
	}
}

// plain reads the characters that stand for themselves, up to a " or a \ .
func (r *reader) plain() string {
	start := r.at
	for i, c := range r.text[start:] {
		r.at = start + i
		switch {
		case c == '"' || c == '\\':
			return r.text[start:r.at]
		case c < ' ':
			panic(fault{api.ErrText, r.at})
		case c == utf8.RuneError:
			r.character()
		}
	}
	panic(fault{api.ErrShort, len(r.text)})
}

// character gives up unless one begins here: the range over a string tells U+FFFD both for that character and for bytes that are none.
func (r *reader) character() {
	rest := r.text[r.at:]
	if !utf8.FullRuneInString(rest) {
		panic(fault{api.ErrShort, len(r.text)})
	}
	if _, size := utf8.DecodeRuneInString(rest); size == 1 {
		panic(fault{api.ErrUtf, r.at})
	}
}

// escape reads from a \ on.
func (r *reader) escape() rune {
	start := r.at
	r.at++
	c := r.here()
	if c == 'u' {
		r.at++
		return r.coded(start)
	}
	meant, ok := unescaped(c)
	if !ok {
		panic(fault{api.ErrEscape, r.at})
	}
	r.at++
	return meant
}

func unescaped(c byte) (rune, bool) {
	switch c {
	case '"', '\\', '/':
		return rune(c), true
	case 'b':
		return '\b', true
	case 'f':
		return '\f', true
	case 'n':
		return '\n', true
	case 'r':
		return '\r', true
	case 't':
		return '\t', true
	}
	return 0, false
}

// coded reads the digits behind a \u, and the second of a pair; start is the place of the first \ .
func (r *reader) coded(start int) rune {
	high := r.hex()
	if high < firstHigh || high >= behindLow {
		return high
	}
	if high >= firstLow {
		panic(fault{api.ErrUtf, start})
	}
	for _, c := range []byte{'\\', 'u'} {
		if r.here() != c {
			panic(fault{api.ErrUtf, start})
		}
		r.at++
	}
	low := r.hex()
	if low < firstLow || low >= behindLow {
		panic(fault{api.ErrUtf, start})
	}
	return firstPair + (high-firstHigh)<<10 + (low - firstLow)
}

func (r *reader) hex() rune {
	var x rune
	for range 4 {
		d, ok := hexDigit(r.here())
		if !ok {
			panic(fault{api.ErrEscape, r.at})
		}
		r.at++
		x = x<<4 | d
	}
	return x
}

func hexDigit(c byte) (rune, bool) {
	switch {
	case isDigit(c):
		return rune(c - '0'), true
	case 'a' <= c && c <= 'f':
		return rune(c-'a') + 10, true
	case 'A' <= c && c <= 'F':
		return rune(c-'A') + 10, true
	}
	return 0, false
}
