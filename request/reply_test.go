package request_test

import (
	"math"
	"slices"
	"strings"
	"testing"

	"docket/api"
	"docket/jsonval"
	"docket/request"
)

// TestBad: P16.5.
func TestBad(t *testing.T) {
	for _, c := range []struct {
		e    api.Errno
		at   int
		want string
	}{
		{api.ErrStale, -1, `{"ok":false,"error":"stale"}`},
		{api.ErrThere, 2, `{"ok":false,"error":"there","at":2}`},
		{api.ErrOp, 0, `{"ok":false,"error":"op","at":0}`},
		{api.ErrOp, 63, `{"ok":false,"error":"op","at":63}`},
		{api.OK, -1, `{"ok":false,"error":"ok"}`},
		{api.OK, 1, `{"ok":false,"error":"ok","at":1}`},
		{9999, math.MaxInt, `{"ok":false,"error":"unknown","at":9223372036854775807}`},
		{-5, math.MinInt, `{"ok":false,"error":"unknown"}`},
		{api.ErrNotEmpty, -2, `{"ok":false,"error":"notempty"}`},
	} {
		if got := request.Bad(c.e, c.at); got != c.want {
			t.Errorf("Bad(%d, %d): %s", c.e, c.at, got)
		}
	}
}

// TestGood: P16.4.
func TestGood(t *testing.T) {
	one, two := jsonval.Of(1), jsonval.Of(2)
	for _, c := range []struct {
		names []string
		items []api.Value
		want  string
	}{
		{[]string{"a"}, []api.Value{one}, `{"ok":true,"a":1}`},
		{[]string{"b", "a"}, []api.Value{one, two}, `{"ok":true,"b":1,"a":2}`},
		{nil, nil, `{"ok":true}`},
		{[]string{}, []api.Value{}, `{"ok":true}`},
		{nil, []api.Value{one}, `{"ok":true}`},
		{[]string{"a"}, nil, `{"ok":true}`},
		{[]string{"a", "b"}, []api.Value{one}, `{"ok":true,"a":1}`},
		{[]string{"a"}, []api.Value{one, two}, `{"ok":true,"a":1}`},
		{[]string{"a", "\xff"}, []api.Value{one}, `{"ok":true,"a":1}`},
		{[]string{"a"}, []api.Value{one, {Kind: 42}}, `{"ok":true,"a":1}`},
		{[]string{"", "\"", "é"}, []api.Value{{}, jsonval.Word("\n"), jsonval.Listed(one, jsonval.Named([]string{"x"}, two))}, `{"ok":true,"":null,"\"":"\n","é":[1,{"x":2}]}`},
	} {
		if got := request.Good(c.names, c.items...); got != c.want {
			t.Errorf("Good(%q, %v): %s, want %s", c.names, c.items, got, c.want)
		}
	}
}

// TestGoodRefused: P16.4, where Print refuses.
func TestGoodRefused(t *testing.T) {
	one := jsonval.Of(1)
	deep := one
	for range api.MaxDepth {
		deep = jsonval.Listed(deep)
	}
	for _, c := range []struct {
		names []string
		items []api.Value
		want  string
	}{
		{[]string{"ok"}, []api.Value{one}, "name"},
		{[]string{"a", "a"}, []api.Value{one, one}, "name"},
		{[]string{"\xff"}, []api.Value{one}, "value"},
		{[]string{"a"}, []api.Value{{Kind: 7}}, "value"},
		{[]string{"a"}, []api.Value{{Kind: api.Int, Text: "x"}}, "value"},
		{[]string{"a"}, []api.Value{deep}, "depth"},
		{[]string{"a"}, []api.Value{jsonval.Word(strings.Repeat("x", api.MaxText))}, "long"},
	} {
		if got, want := request.Good(c.names, c.items...), `{"ok":false,"error":"`+c.want+`"}`; got != want {
			t.Errorf("Good(%q, ..): %.300s, want %s", c.names, got, want)
		}
	}
	if got := request.Good([]string{"a"}, deep.Items[0]); !strings.HasPrefix(got, `{"ok":true,"a":[[[`) {
		t.Errorf("an item as deep as it may be: %s", got)
	}
	longest := strings.Repeat("x", api.MaxText-len(`{"ok":true,"a":""}`))
	if got := request.Good([]string{"a"}, jsonval.Word(longest)); len(got) != api.MaxText {
		t.Errorf("as long as it may be: %d bytes, %.50s", len(got), got)
	}
	if got := request.Good([]string{"a"}, jsonval.Word(longest+"x")); got != `{"ok":false,"error":"long"}` {
		t.Errorf("a byte longer: %.50s", got)
	}
}

// TestGoodLeaves holds that what is handed in stays as it is, its spare room too.
func TestGoodLeaves(t *testing.T) {
	names := append(make([]string, 0, 8), "a", "b")
	items := append(make([]api.Value, 0, 8), jsonval.Of(1), jsonval.Listed(jsonval.Of(2)))
	for range 2 {
		if got := request.Good(names, items...); got != `{"ok":true,"a":1,"b":[2]}` {
			t.Error(got)
		}
	}
	if !slices.Equal(names[:8], []string{"a", "b", "", "", "", "", "", ""}) {
		t.Errorf("%q", names[:8])
	}
	for i, item := range items[:8] {
		if want := []api.Value{jsonval.Of(1), jsonval.Listed(jsonval.Of(2)), {}, {}, {}, {}, {}, {}}[i]; !jsonval.Equal(item, want) {
			t.Errorf("item %d: %v", i, item)
		}
	}
}
