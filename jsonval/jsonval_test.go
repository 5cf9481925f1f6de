package jsonval_test

import (
	"math"
	"testing"
	"unsafe"

	"docket/api"
	"docket/jsonval"
)

func TestEqual(t *testing.T) {
	one, two := jsonval.Of(1), jsonval.Of(2)
	odd := api.Value{Kind: 42, Int: 7, Text: "\xff", Names: []string{"a", "a"}, Items: []api.Value{one}}
	unlike := []api.Value{
		{}, {Kind: api.False}, {Kind: api.True}, {Kind: api.Int}, {Kind: api.Text}, {Kind: api.List}, {Kind: api.Object}, {Kind: -1},
		one, two, jsonval.Word("a"), jsonval.Word("b"), jsonval.Word("1"),
		list(one), list(two), list(one, two), list(two, one), list(list(one)),
		object([]string{"a", "b"}, one, two), object([]string{"b", "a"}, two, one), object([]string{"b", "a"}, one, two),
		object([]string{"a"}, one), object([]string{"a"}, two), object([]string{"a"}), object(nil, one), object([]string{"a", "a"}, one),
		odd, {Kind: api.Null, Int: 1}, {Kind: api.Null, Text: "1"}, {Kind: api.Null, Names: []string{"1"}}, {Kind: api.Null, Items: []api.Value{{}}},
	}
	for i, a := range unlike {
		for j, b := range unlike {
			if jsonval.Equal(a, b) != (i == j) {
				t.Errorf("Equal(%v, %v): %v", a, b, i != j)
			}
		}
	}
	empty := api.Value{Kind: api.List, Names: []string{}, Items: []api.Value{}}
	if !jsonval.Equal(empty, api.Value{Kind: api.List}) {
		t.Error("an empty list and nil differ")
	}
	if !jsonval.Equal(nested(65536, one), nested(65536, one)) || jsonval.Equal(nested(65536, one), nested(65536, two)) {
		t.Error("deep Values")
	}
}

func TestCopy(t *testing.T) {
	inner := list(jsonval.Of(1), jsonval.Word("x"))
	for _, v := range []api.Value{
		{}, jsonval.Of(math.MinInt64), jsonval.Word("\xff"), inner, list(), object(nil),
		list(inner, inner, list(inner)),
		object([]string{"a", "b"}, inner, object([]string{"a"}, inner)),
		{Kind: 42, Int: 7, Text: "t", Names: []string{"a", "a"}, Items: []api.Value{inner}},
		nested(65536, inner),
	} {
		was := jsonval.Copy(v)
		first, second := jsonval.Copy(v), jsonval.Copy(v)
		if !jsonval.Equal(first, v) || !jsonval.Equal(v, was) {
			t.Errorf("Copy(%.100v): %.100v", v, first)
		}
		if !placesOf(first, second).apart() {
			t.Errorf("Copies of %.100v share memory", v)
		}
		if !strange(v, first) {
			t.Errorf("Copy(%.100v) shares memory with it", v)
		}
	}
}

// strange tells whether two Values share no slot of a list (each may have one twice).
func strange(a, b api.Value) bool {
	p, q := placesOf(a), placesOf(b)
	for at := range p.names {
		if q.names[at] > 0 {
			return false
		}
	}
	for at := range p.items {
		if q.items[at] > 0 {
			return false
		}
	}
	return true
}

func TestCopyTexts(t *testing.T) {
	v := object([]string{"name"}, jsonval.Word("text"))
	c := jsonval.Copy(v)
	if unsafe.StringData(c.Names[0]) == unsafe.StringData(v.Names[0]) || unsafe.StringData(c.Items[0].Text) == unsafe.StringData(v.Items[0].Text) {
		t.Error("a Copy's texts are not in memory of its own")
	}
}

func TestHas(t *testing.T) {
	one, two, three := jsonval.Of(1), jsonval.Of(2), jsonval.Of(3)
	abc := object([]string{"a", "", "c"}, one, two, three)
	for _, c := range []struct {
		v     api.Value
		name  string
		want  api.Value
		there bool
	}{
		{abc, "a", one, true},
		{abc, "", two, true},
		{abc, "c", three, true},
		{abc, "b", api.Value{}, false},
		{abc, "A", api.Value{}, false},
		{object([]string{"a"}, api.Value{}), "a", api.Value{}, true},
		{object([]string{"\xff"}, one), "\xff", one, true},
		{object([]string{"b", "a", "a"}, one, two, three), "a", two, true},
		{object([]string{"a", "b"}, one), "a", one, true},
		{object([]string{"a", "b"}, one), "b", api.Value{}, false},
		{object([]string{"a", "b", "a"}, one), "a", one, true},
		{object([]string{"a"}), "a", api.Value{}, false},
		{object([]string{"a"}, one, two), "", api.Value{}, false},
		{object(nil), "", api.Value{}, false},
		{object([]string{"a"}, abc), "c", api.Value{}, false},
		{object([]string{"a"}, abc), "a", abc, true},
	} {
		if got, there := jsonval.Has(c.v, c.name); there != c.there || !jsonval.Equal(got, c.want) {
			t.Errorf("Has(%v, %q): %v, %v", c.v, c.name, got, there)
		}
	}
	for _, kind := range []int{api.Null, api.False, api.True, api.Int, api.Text, api.List, 7, -1} {
		v := api.Value{Kind: kind, Text: "a", Names: []string{"a"}, Items: []api.Value{one}}
		if got, there := jsonval.Has(v, "a"); there || !isZero(got) {
			t.Errorf("Has of kind %d: %v, %v", kind, got, there)
		}
	}
}

func TestMade(t *testing.T) {
	one := jsonval.Of(1)
	for _, c := range []struct{ got, want api.Value }{
		{jsonval.Of(0), api.Value{Kind: api.Int}},
		{jsonval.Of(math.MinInt64), api.Value{Kind: api.Int, Int: math.MinInt64}},
		{jsonval.Of(math.MaxInt64), api.Value{Kind: api.Int, Int: math.MaxInt64}},
		{jsonval.Word(""), api.Value{Kind: api.Text}},
		{jsonval.Word("a\xff"), api.Value{Kind: api.Text, Text: "a\xff"}},
		{jsonval.Flag(true), api.Value{Kind: api.True}},
		{jsonval.Flag(false), api.Value{Kind: api.False}},
		{jsonval.Listed(), api.Value{Kind: api.List}},
		{jsonval.Listed(one, api.Value{Kind: 9}), api.Value{Kind: api.List, Items: []api.Value{one, {Kind: 9}}}},
		{jsonval.Named(nil), api.Value{Kind: api.Object}},
		{jsonval.Named([]string{"a"}, one), api.Value{Kind: api.Object, Names: []string{"a"}, Items: []api.Value{one}}},
		{jsonval.Named([]string{"a", "a"}, one), api.Value{Kind: api.Object, Names: []string{"a", "a"}, Items: []api.Value{one}}},
		{jsonval.Named(nil, one, one), api.Value{Kind: api.Object, Items: []api.Value{one, one}}},
	} {
		if !jsonval.Equal(c.got, c.want) {
			t.Errorf("%v, want %v", c.got, c.want)
		}
	}
}

func TestMadeMemory(t *testing.T) {
	names := append(make([]string, 0, 8), "a", "b")
	items := append(make([]api.Value, 0, 8), jsonval.Of(1), jsonval.Of(2))
	handed := object(names, items...)
	values := []api.Value{jsonval.Listed(items...), jsonval.Listed(items...), jsonval.Named(names, items...), jsonval.Named(names, items...), jsonval.Listed(items[:0]...)}
	if !placesOf(append(values, handed)...).apart() {
		t.Error("lists are not the Value's own")
	}
	for _, s := range names[2:8] {
		if s != "" {
			t.Error("the names' spare room is changed")
		}
	}
	for _, v := range items[2:8] {
		if !isZero(v) {
			t.Error("the items' spare room is changed")
		}
	}
}
