package jsonval_test

import (
	"math/rand"
	"strings"
	"testing"

	"docket/api"
	"docket/jsonval"
)

// told is what Parse must answer at a text: a fault and its place, or, with OK, what Print makes of the value.
type told struct {
	text  string
	why   api.Errno
	place int
	back  string
}

// holdParse also holds that an answer with an error has the zero Value, and that one with OK is a value.
func holdParse(t *testing.T, cases []told) {
	t.Helper()
	for _, c := range cases {
		v, e, at := jsonval.Parse(c.text)
		if e != c.why || at != c.place {
			t.Errorf("Parse(%q): error %d at %d, want %d at %d", c.text, e, at, c.why, c.place)
			continue
		}
		if e != api.OK {
			if !isZero(v) {
				t.Errorf("Parse(%q): error %d beside %v", c.text, e, v)
			}
			continue
		}
		if back, e := jsonval.Print(v); e != api.OK || back != c.back {
			t.Errorf("Print of Parse(%q): %q, %d, want %q", c.text, back, e, c.back)
		}
	}
}

func isZero(v api.Value) bool {
	return v.Kind == 0 && v.Int == 0 && v.Text == "" && v.Names == nil && v.Items == nil
}

func parsed(t *testing.T, text string) api.Value {
	t.Helper()
	v, e, at := jsonval.Parse(text)
	if e != api.OK {
		t.Fatalf("Parse(%q): %d at %d", text, e, at)
	}
	return v
}

// nested is inner within n lists.
func nested(n int, inner api.Value) api.Value {
	for range n {
		inner = api.Value{Kind: api.List, Items: []api.Value{inner}}
	}
	return inner
}

// places holds the addresses of all slots of v's lists, the spare ones too.
type places struct {
	names map[*string]int
	items map[*api.Value]int
}

func placesOf(values ...api.Value) places {
	p := places{map[*string]int{}, map[*api.Value]int{}}
	for _, v := range values {
		p.take(v)
	}
	return p
}

func (p places) take(v api.Value) {
	names, items := v.Names[:cap(v.Names)], v.Items[:cap(v.Items)]
	for i := range names {
		p.names[&names[i]]++
	}
	for i := range items {
		p.items[&items[i]]++
	}
	for _, item := range v.Items {
		p.take(item)
	}
}

// apart tells whether no slot is taken twice.
func (p places) apart() bool {
	for _, n := range p.names {
		if n > 1 {
			return false
		}
	}
	for _, n := range p.items {
		if n > 1 {
			return false
		}
	}
	return true
}

// dice makes values and texts that are the same in each run.
type dice struct{ *rand.Rand }

func newDice(seed int64) dice { return dice{rand.New(rand.NewSource(seed))} }

func (d dice) word() string {
	pieces := []string{"a", "b", "\"", "\\", "/", "\x00", "\x1f", "\b", "\t", "\n", "\f", "\r", "\x7f", "\u00e9", "\u20ac", "\ufffd", "\U0001f600", "\U0010ffff", " "}
	var b strings.Builder
	for range d.Intn(4) {
		b.WriteString(pieces[d.Intn(len(pieces))])
	}
	return b.String()
}

func (d dice) value(deep int) api.Value {
	kinds := 7
	if deep == 0 {
		kinds = 5
	}
	switch kind := d.Intn(kinds); kind {
	case api.Int:
		return jsonval.Of(int64(d.Uint64()) >> d.Intn(64))
	case api.Text:
		return jsonval.Word(d.word())
	case api.List:
		return jsonval.Listed(d.values(d.Intn(4), deep-1)...)
	case api.Object:
		names := d.names(d.Intn(4))
		return jsonval.Named(names, d.values(len(names), deep-1)...)
	default:
		return api.Value{Kind: kind}
	}
}

func (d dice) values(n, deep int) []api.Value {
	var l []api.Value
	for range n {
		l = append(l, d.value(deep))
	}
	return l
}

func (d dice) names(most int) []string {
	var l []string
	had := map[string]bool{}
	for range most {
		if s := d.word(); !had[s] {
			had[s] = true
			l = append(l, s)
		}
	}
	return l
}

// spoilt is a text with some of its bytes changed, left out or put in.
func (d dice) spoilt(text string) string {
	const bytes = "[]{},:\"\\u0019-.eE+ntfdDcCaluers/ \t\n\r\x0b\x00\x01\xc2\xa9\xe2\x82\xac\xed\xf0\x9f\xf4\xff"
	b := []byte(text)
	for range 1 + d.Intn(3) {
		at := d.Intn(len(b) + 1)
		c := bytes[d.Intn(len(bytes))]
		switch {
		case d.Intn(3) == 0 || at == len(b):
			b = append(b[:at:at], append([]byte{c}, b[at:]...)...)
		case d.Intn(2) == 0:
			b[at] = c
		default:
			b = append(b[:at:at], b[at+1:]...)
		}
	}
	return string(b)
}
