package jsonval

import (
	"strconv"

	"docket/api"
)

// fault is what a reader panics with: it gives up from however deep it stands.
type fault struct {
	why   api.Errno
	place int
}

// reader goes through a text from the left; at is the place of the byte that comes next.
type reader struct {
	text string
	at   int
}

// Parse: P1.1.
func Parse(text string) (api.Value, api.Errno, int) {
	if len(text) > api.MaxText {
		return api.Value{}, api.ErrLong, 0
	}
	r := reader{text: text}
	v, f := r.whole()
	return v, f.why, f.place
}

func (r *reader) whole() (v api.Value, f fault) {
	defer func() {
		switch x := recover().(type) {
		case nil:
		case fault:
			v, f = api.Value{}, x
		default:
			panic(x) // not a reader that gave up: an error of this package must not pass for an answer
		}
	}()
	r.blanks()
	v = r.value(0)
	r.blanks()
	if r.at < len(r.text) {
		panic(fault{api.ErrTail, r.at})
	}
	return v, fault{}
}

// here is the byte that comes next, where one must.
func (r *reader) here() byte {
	if r.at == len(r.text) {
		panic(fault{api.ErrShort, r.at})
	}
	return r.text[r.at]
}

// pass goes over a byte that must be just this one.
func (r *reader) pass(c byte) {
	if r.here() != c {
		panic(fault{api.ErrToken, r.at})
	}
	r.at++
}

func (r *reader) blanks() {
	for r.at < len(r.text) && isBlank(r.text[r.at]) {
		r.at++
	}
}

func isBlank(c byte) bool { return c == ' ' || c == '\t' || c == '\n' || c == '\r' }

func isDigit(c byte) bool { return '0' <= c && c <= '9' }

func (r *reader) value(depth int) api.Value {
	switch c := r.here(); {
	case c == 'n':
		return r.literal("null", api.Null)
	case c == 't':
		return r.literal("true", api.True)
	case c == 'f':
		return r.literal("false", api.False)
	case c == '-' || isDigit(c):
		return Of(r.number())
	case c == '"':
		return Word(r.quoted())
	case (c == '[' || c == '{') && depth == api.MaxDepth:
		panic(fault{api.ErrDepth, r.at})
	case c == '[':
		return r.list(depth)
	case c == '{':
		return r.object(depth)
	}
	panic(fault{api.ErrToken, r.at})
}

func (r *reader) literal(word string, kind int) api.Value {
	for i := range len(word) {
		r.pass(word[i])
	}
	return api.Value{Kind: kind}
}

func (r *reader) number() int64 {
	start := r.at
	if r.text[start] == '-' {
		r.at++
	}
	r.digits()
	x, err := strconv.ParseInt(r.text[start:r.at], 10, 64)
	if err != nil {
		panic(fault{api.ErrRange, start})
	}
	if r.at < len(r.text) && isFraction(r.text[r.at]) {
		panic(fault{api.ErrInt, r.at})
	}
	return x
}

// digits goes no further than a 0 at the beginning: what stands behind it belongs to no number.
func (r *reader) digits() {
	first := r.here()
	if !isDigit(first) {
		panic(fault{api.ErrToken, r.at})
	}
	r.at++
	for first != '0' && r.at < len(r.text) && isDigit(r.text[r.at]) {
		r.at++
	}
}

func isFraction(c byte) bool { return c == '.' || c == 'e' || c == 'E' }

func (r *reader) list(depth int) api.Value {
	v := api.Value{Kind: api.List}
	r.between(']', func() {
		v.Items = append(v.Items, r.value(depth+1))
	})
	return v
}

func (r *reader) object(depth int) api.Value {
	v := api.Value{Kind: api.Object}
	had := nameSet{}
	r.between('}', func() {
		v.Names = append(v.Names, r.name(had))
		v.Items = append(v.Items, r.value(depth+1))
	})
	return v
}

// between reads one part after the other, from the opening bracket to the closing one.
func (r *reader) between(closing byte, part func()) {
	r.at++
	r.blanks()
	if r.here() == closing {
		r.at++
		return
	}
	for {
		part()
		r.blanks()
		if r.here() == closing {
			r.at++
			return
		}
		r.pass(',')
		r.blanks()
	}
}

// name reads a member up to where its value begins.
func (r *reader) name(had nameSet) string {
	start := r.at
	if r.here() != '"' {
		panic(fault{api.ErrToken, start})
	}
	name := r.quoted()
	if !had.add(name) {
		panic(fault{api.ErrName, start})
	}
	r.blanks()
	r.pass(':')
	r.blanks()
	return name
}
