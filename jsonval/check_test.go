package jsonval_test

import (
	"testing"

	"docket/api"
	"docket/jsonval"
)

type checked struct {
	v    api.Value
	want api.Errno
}

func holdCheck(t *testing.T, cases []checked) {
	t.Helper()
	for i, c := range cases {
		if e := jsonval.Check(c.v); e != c.want {
			t.Errorf("case %d: Check(%.200v): %d, want %d", i, c.v, e, c.want)
		}
		text, e := jsonval.Print(c.v)
		if e != c.want || (text == "") != (c.want != api.OK) {
			t.Errorf("case %d: Print: %q, %d, want %d", i, text, e, c.want)
		}
		if size := jsonval.Size(c.v); size != len(text) {
			t.Errorf("case %d: Size: %d of %q", i, size, text)
		}
	}
}

func object(names []string, items ...api.Value) api.Value {
	return api.Value{Kind: api.Object, Names: names, Items: items}
}

func list(items ...api.Value) api.Value { return api.Value{Kind: api.List, Items: items} }

func TestCheckValues(t *testing.T) {
	one := api.Value{Kind: api.Int, Int: 1}
	holdCheck(t, []checked{
		{api.Value{}, api.OK},
		{api.Value{Kind: api.False}, api.OK},
		{api.Value{Kind: api.True}, api.OK},
		{api.Value{Kind: api.Int}, api.OK},
		{one, api.OK},
		{api.Value{Kind: api.Text}, api.OK},
		{api.Value{Kind: api.Text, Text: "\x00\u00e9\ufffd\U0010ffff"}, api.OK},
		{list(), api.OK},
		{list(one, one), api.OK},
		{object(nil), api.OK},
		{object([]string{"", "a"}, one, one), api.OK},
		{object([]string{"a"}, object([]string{"a"}, one)), api.OK},
		{api.Value{Kind: api.Int, Names: []string{}, Items: []api.Value{}}, api.OK},
	})
}

func TestCheckNoValues(t *testing.T) {
	one := api.Value{Kind: api.Int, Int: 1}
	bad := api.Value{Kind: 7}
	holdCheck(t, []checked{
		{bad, api.ErrValue},
		{api.Value{Kind: -1}, api.ErrValue},
		{list(one, bad), api.ErrValue},
		{object([]string{"a"}, bad), api.ErrValue},
		{api.Value{Kind: api.Text, Text: "a\xff"}, api.ErrValue},
		{api.Value{Kind: api.Text, Text: "\xed\xa0\x80"}, api.ErrValue},
		{api.Value{Kind: api.Text, Text: "\xc0\x80"}, api.ErrValue},
		{api.Value{Kind: api.Text, Text: "\xf4\x90\x80\x80"}, api.ErrValue},
		{api.Value{Kind: api.Text, Text: "\xe2\x82"}, api.ErrValue},
		{object([]string{"a", "b"}, one), api.ErrValue},
		{object([]string{"a"}), api.ErrValue},
		{object([]string{"a"}, one, one), api.ErrValue},
		{object(nil, one), api.ErrValue},
		{object([]string{"\xff"}, one), api.ErrValue},
		{object([]string{"a", "a"}, one, one), api.ErrName},
		{object([]string{"", "b", ""}, one, one, one), api.ErrName},
	})
}

// TestCheckStrayFields gives each kind what only others have.
func TestCheckStrayFields(t *testing.T) {
	for kind := api.Null; kind <= api.Object; kind++ {
		var cases []checked
		stray := func(own bool, v api.Value) {
			if !own {
				v.Kind = kind
				cases = append(cases, checked{v, api.ErrValue})
			}
		}
		stray(kind == api.Int, api.Value{Int: -1})
		stray(kind == api.Text, api.Value{Text: "x"})
		stray(false, api.Value{Names: []string{"a"}})
		stray(kind == api.List, api.Value{Items: []api.Value{{}}})
		stray(kind == api.Object, api.Value{Names: []string{"a"}, Items: []api.Value{{}}})
		holdCheck(t, cases)
	}
}

func TestCheckDepth(t *testing.T) {
	one := api.Value{Kind: api.Int, Int: 1}
	holdCheck(t, []checked{
		{nested(63, list()), api.OK},
		{nested(63, object(nil)), api.OK},
		{nested(64, one), api.OK},
		{nested(64, api.Value{}), api.OK},
		{nested(64, list()), api.ErrDepth},
		{nested(64, object(nil)), api.ErrDepth},
		{nested(65, one), api.ErrDepth},
		{nested(1000, one), api.ErrDepth},
	})
}

// TestCheckFirst has two faults in each Value: the one that is told comes first.
func TestCheckFirst(t *testing.T) {
	one := api.Value{Kind: api.Int, Int: 1}
	bad := api.Value{Kind: 7}
	deep := nested(64, one)
	twice := object([]string{"a", "a"}, one, one)
	holdCheck(t, []checked{
		{list(twice, bad), api.ErrName},
		{list(bad, twice), api.ErrValue},
		{list(nested(63, list()), bad), api.ErrDepth},
		{list(bad, nested(63, list())), api.ErrValue},
		{nested(64, bad), api.ErrValue},
		{nested(64, api.Value{Kind: api.List, Text: "x"}), api.ErrDepth},
		{nested(64, api.Value{Kind: api.Object, Names: []string{"a"}}), api.ErrDepth},
		{nested(64, api.Value{Kind: api.Int, Items: []api.Value{one}}), api.ErrValue},
		{object([]string{"a", "a"}, bad, one), api.ErrValue},
		{object([]string{"a", "a"}, one, bad), api.ErrName},
		{object([]string{"a", "a"}, deep, one), api.ErrDepth},
		{object([]string{"a", "\xff"}, deep, one), api.ErrDepth},
		{object([]string{"\xff", "a"}, deep, one), api.ErrValue},
		{object([]string{"a", "a", "\xff"}, one, one, one), api.ErrName},
		{object([]string{"a", "\xff", "a"}, one, one, one), api.ErrValue},
		{object([]string{"a", "a"}, one), api.ErrValue},
		{object([]string{"a", "a"}, one, one, one), api.ErrValue},
		{object([]string{"b", "b"}, twice, bad), api.ErrName},
		{api.Value{Kind: api.Object, Text: "x", Names: []string{"a", "a"}, Items: []api.Value{one, one}}, api.ErrValue},
	})
}
