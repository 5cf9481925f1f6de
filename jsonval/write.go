package jsonval

import (
	"strconv"
	"strings"

	"docket/api"
)

const hexDigits = "0123456789abcdef"

// Print: P1.4.
func Print(v api.Value) (string, api.Errno) {
	if e := Check(v); e != api.OK {
		return "", e
	}
	n := length(v)
	if n > api.MaxText {
		return "", api.ErrLong
	}
	var b strings.Builder
	b.Grow(n)
	write(&b, v)
	return b.String(), api.OK
}

// Size: P1.5.
func Size(v api.Value) int {
	if Check(v) != api.OK {
		return 0
	}
	return length(v)
}

// length is asked ahead of write, so that a text that would be too long is never made.
func length(v api.Value) int {
	switch v.Kind {
	case api.Int:
		return len(strconv.FormatInt(v.Int, 10))
	case api.Text:
		return quotedLength(v.Text)
	case api.List, api.Object:
		return nestLength(v)
	}
	return len(constantText(v.Kind))
}

func nestLength(v api.Value) int {
	n := len("[]") + max(0, len(v.Items)-1)*len(",")
	for _, name := range v.Names {
		n += quotedLength(name) + len(":")
	}
	for _, item := range v.Items {
		n += length(item)
	}
	return n
}

func quotedLength(s string) int {
	n := len(`""`) + len(s)
	for _, c := range s {
		if isEscaped(c) {
			n += len(escaped(c)) - 1
		}
	}
	return n
}

func write(b *strings.Builder, v api.Value) {
	switch v.Kind {
	case api.Int:
		b.WriteString(strconv.FormatInt(v.Int, 10))
	case api.Text:
		writeQuoted(b, v.Text)
	case api.List:
		b.WriteByte('[')
		writeItems(b, v)
		b.WriteByte(']')
	case api.Object:
		b.WriteByte('{')
		writeItems(b, v)
		b.WriteByte('}')
	default:
		b.WriteString(constantText(v.Kind))
	}
}

func constantText(kind int) string {
	switch kind {
	case api.True:
		return "true"
	case api.False:
		return "false"
	}
	return "null"
}

func writeItems(b *strings.Builder, v api.Value) {
	for i, item := range v.Items {
		if i > 0 {
			b.WriteByte(',')
		}
		if v.Kind == api.Object {
			writeQuoted(b, v.Names[i])
			b.WriteByte(':')
		}
		write(b, item)
	}
}

func writeQuoted(b *strings.Builder, s string) {
	b.WriteByte('"')
	for _, c := range s {
		if isEscaped(c) {
			b.WriteString(escaped(c))
		} else {
			b.WriteRune(c)
		}
	}
	b.WriteByte('"')
}

func isEscaped(c rune) bool { return c < ' ' || c == '"' || c == '\\' }

func escaped(c rune) string {
	switch c {
	case '"':
		return `\"`
	case '\\':
		return `\\`
	case '\b':
		return `\b`
	case '\t':
		return `\t`
	case '\n':
		return `\n`
	case '\f':
		return `\f`
	case '\r':
		return `\r`
	}
	return `\u00` + string(hexDigits[c>>4]) + string(hexDigits[c&15])
}
