package shape_test

import (
	"math"
	"slices"
	"strings"
	"testing"

	"docket/api"
	"docket/dotpath"
	"docket/jsonval"
	"docket/shape"
)

// P6.6.
func TestWindow(t *testing.T) {
	const most, least = math.MaxInt64, math.MinInt64
	for _, c := range []struct {
		n           int
		skip, limit int64
		from, to    int
	}{
		{10, 3, 4, 3, 7},
		{10, 12, 1, 10, 10},
		{10, -1, 0, 0, 10},
		{10, 0, 0, 0, 10},
		{10, 0, 1, 0, 1},
		{10, 0, 10, 0, 10},
		{10, 0, 11, 0, 10},
		{10, 9, 1, 9, 10},
		{10, 9, 2, 9, 10},
		{10, 10, 0, 10, 10},
		{10, 10, 5, 10, 10},
		{10, 11, 0, 10, 10},
		{10, 3, 0, 3, 10},
		{10, 3, -1, 3, 10},
		{10, 3, least, 3, 10},
		{10, 3, 6, 3, 9},
		{10, 3, 7, 3, 10},
		{10, 3, 8, 3, 10},
		{10, 3, most, 3, 10},
		{10, most, most, 10, 10},
		{10, least, most, 0, 10},
		{10, least, 2, 0, 2}, // from there on, not from skip on
		{10, -5, 2, 0, 2},
		{0, 0, 0, 0, 0},
		{0, 5, 5, 0, 0},
		{0, -1, -1, 0, 0},
		{-1, 0, 0, 0, 0},
		{-1, 5, 5, 0, 0},
		{-1, -5, 1, 0, 0},
		{math.MinInt, 0, 1, 0, 0},
		{math.MaxInt, 0, 0, 0, math.MaxInt},
		{math.MaxInt, 5, most, 5, math.MaxInt},
		{math.MaxInt, most, 1, math.MaxInt, math.MaxInt},
		{math.MaxInt, most - 1, most, math.MaxInt - 1, math.MaxInt},
	} {
		if from, to := shape.Window(c.n, c.skip, c.limit); from != c.from || to != c.to {
			t.Errorf("Window(%d, %d, %d): %d, %d; want %d, %d", c.n, c.skip, c.limit, from, to, c.from, c.to)
		}
	}
}

// P6.7.
func TestDistinct(t *testing.T) {
	for _, c := range []struct {
		path  string
		texts []string
		want  string
	}{
		{"a", []string{`{"a":[3,1]}`, `{"a":1}`, `{"a":[]}`, `{"a":"x"}`}, `1 3 "x" []`},
		{"a", []string{`{"a":true}`, `{"a":false}`, `{"a":[[]]}`, `{"a":{}}`, `{"a":""}`, `{"a":0}`, `{"a":null}`}, `null 0 "" {} [] false true`},
		{"a", []string{`{}`, `{"b":1}`}, ``}, // what is not there is no null
		{"a", []string{`{}`, `{"a":null}`, `{"a":null}`}, `null`},
		{"a", []string{`{"a":[[1,2],[1,2],3,[]]}`, `{"a":[[1,2]]}`}, `3 [] [1,2]`}, // the items of a list alone
		{"a", []string{`{"a":[2,2,2]}`}, `2`},
		{"a", []string{`{"a":{"b":1,"c":2}}`, `{"a":{"c":2,"b":1}}`, `{"a":{"b":1,"c":2}}`}, `{"b":1,"c":2} {"c":2,"b":1}`},
		{"a.b", []string{`{"a":[{"b":2},{"b":[5,4]},{"c":1},7]}`, `{"a":{"b":4}}`, `{"a":[]}`}, `2 4 5`},
		{"a.0", []string{`{"a":[9,1]}`, `{"a":[[8,7]]}`, `{"a":{"0":6}}`}, `6 7 8 9`},
		{"", []string{`{"a":2}`, `{"a":1}`, `{"a":2}`}, `{"a":1} {"a":2}`},
		{"a", nil, ``},
	} {
		l := documents(t, c.texts...)
		for range 2 {
			path, _, _ := dotpath.Parse(c.path)
			if got := strings.Join(values(shape.Distinct(l, path)), " "); got != c.want {
				t.Errorf("%q of %q: %s, want %s", c.path, c.texts, got, c.want)
			}
			slices.Reverse(l)
		}
	}
}

// P6.7: the path is any list of segments, the documents are any values, their Ids have no part in it.
func TestDistinctOfAnything(t *testing.T) {
	l := []api.Doc{{Value: parsed(t, `[{"":1},{"":2}]`)}, {Value: parsed(t, `{"":{"$":3}}`)}, {Value: parsed(t, `7`)}}
	if got := values(shape.Distinct(l, []string{""})); !slices.Equal(got, []string{"1", "2", `{"$":3}`}) {
		t.Errorf("of an empty name: %q", got)
	}
	if got := values(shape.Distinct(l, []string{"", "$"})); !slices.Equal(got, []string{"3"}) {
		t.Errorf("of a name with $: %q", got)
	}
	if got := values(shape.Distinct(l, nil)); !slices.Equal(got, []string{"7", `{"":1}`, `{"":2}`, `{"":{"$":3}}`}) {
		t.Errorf("of the empty path: %q", got)
	}
}

// P6.7: Values that are alike in the order and not equal stand as they came, each once, whatever stands between them.
func TestDistinctOfAlikeValues(t *testing.T) {
	one := jsonval.Of(1)
	plain, long, longer := object("a", one), odd(api.Object, []string{"a", "b"}, one), odd(api.Object, []string{"a"}, one, one)
	strange, other := odd(9, nil), api.Value{Kind: -1, Int: 5}
	all := []api.Value{long, jsonval.Of(7), plain, strange, long, longer, other, plain, strange, jsonval.Of(7), longer, other}
	for _, c := range []struct{ came, want []api.Value }{
		{all, []api.Value{strange, other, jsonval.Of(7), long, plain, longer}},
		{all[5:], []api.Value{other, strange, jsonval.Of(7), longer, plain}},
	} {
		var l []api.Doc
		for _, v := range c.came {
			l = append(l, api.Doc{Value: object("x", v)})
		}
		listed := []api.Doc{{Value: object("x", api.Value{Kind: api.List, Items: c.came})}}
		for _, docs := range [][]api.Doc{l, listed} {
			if got := shape.Distinct(docs, []string{"x"}); !slices.Equal(values(got), values(c.want)) {
				t.Errorf("%q: %q, want %q", values(c.came), values(got), values(c.want))
			}
		}
	}
}

// P6.7: what is handed in is as it was, spare room too, and each answer is a list of its own.
func TestDistinctTellsANewList(t *testing.T) {
	l := append(documents(t, `{"a":[3,1,2]}`, `{"a":[]}`), documents(t, `{"a":0}`)...)
	for i := range l {
		l[i].Value = roomy(l[i].Value)
	}
	path := append(make([]string, 0, 2), "a", "spare")
	before := spare(l[0].Value) + strings.Join(told(l), " ")
	first := shape.Distinct(l[:2:3], path[:1])
	second := shape.Distinct(l[:2:3], path[:1])
	clear(first[:cap(first)])
	single := shape.Distinct(l[:1:3], path[:1])
	clear(single[:cap(single)])
	if got := values(second); !slices.Equal(got, []string{"1", "2", "3", "[]"}) {
		t.Errorf("second: %q", got)
	}
	if spare(l[0].Value)+strings.Join(told(l), " ") != before || !slices.Equal(path, []string{"a", "spare"}) {
		t.Errorf("what was handed in is %q, %q", told(l), path)
	}
}
