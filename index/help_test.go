package index_test

import (
	"math/rand"
	"slices"
	"strconv"
	"strings"
	"testing"

	"docket/api"
	"docket/dotpath"
	"docket/index"
	"docket/jsonval"
)

func parsed(t *testing.T, text string) api.Value {
	t.Helper()
	v, e, at := jsonval.Parse(text)
	if e != api.OK {
		t.Fatalf("Parse(%q): %d at %d", text, e, at)
	}
	return v
}

// full tells all of a value, also what its kind does not name.
func full(v api.Value) string {
	if text, e := jsonval.Print(v); e == api.OK {
		return text
	}
	var b strings.Builder
	b.WriteString(strconv.Itoa(v.Kind) + "/" + strconv.FormatInt(v.Int, 10) + "/" + strconv.Quote(v.Text) + "(")
	for _, name := range v.Names {
		b.WriteString(strconv.Quote(name) + " ")
	}
	b.WriteString("|")
	for _, item := range v.Items {
		b.WriteString(full(item) + " ")
	}
	return b.String() + ")"
}

// items reads some from texts as `a {"t":5}`: the Key, a blank, the value.
func items(t *testing.T, texts ...string) []api.Item {
	t.Helper()
	var l []api.Item
	for i, text := range texts {
		key, value, _ := strings.Cut(text, " ")
		l = append(l, api.Item{Key: key, Version: int64(i), Value: parsed(t, value)})
	}
	return l
}

func fresh(t *testing.T, s api.Spec) *index.Index {
	t.Helper()
	x, e := index.New(s)
	if e != api.OK || x == nil {
		t.Fatalf("New(%v): %v, %d", s, x, e)
	}
	return x
}

var (
	plain  = api.Spec{Name: "n", Path: "t"}
	unique = api.Spec{Name: "n", Path: "t", Unique: true}
)

// changed is what comes of a change that must be taken.
func changed(t *testing.T, x *index.Index, was, now []api.Item) *index.Index {
	t.Helper()
	y, key, e := x.Change(was, now)
	if e != api.OK || key != "" || y == nil || y == x {
		t.Fatalf("Change(%s, %s) of %s: %v, %q, %d", itemsText(was), itemsText(now), told(x), y, key, e)
	}
	return y
}

// of is an index with just these items.
func of(t *testing.T, s api.Spec, now ...api.Item) *index.Index {
	t.Helper()
	return changed(t, fresh(t, s), nil, now)
}

// told is all that Each tells.
func told(x *index.Index) string {
	var l []string
	for v, key := range x.Each() {
		l = append(l, full(v)+" "+key)
	}
	return strings.Join(l, ", ")
}

func itemsText(l []api.Item) string {
	var all []string
	for _, item := range l {
		all = append(all, item.Key+" "+full(item.Value))
	}
	return strings.Join(all, ", ")
}

// nested is inner within n lists.
func nested(n int, inner api.Value) api.Value {
	for range n {
		inner = jsonval.Listed(inner)
	}
	return inner
}

// noValues are such that jsonval.Check refuses.
func noValues() []api.Value {
	return []api.Value{
		{Kind: 7}, {Kind: -1}, {Kind: api.Null, Int: 1}, {Kind: api.Int, Int: 5, Text: "x"}, {Kind: api.Text, Text: "\xff"},
		{Kind: api.Object, Names: []string{"a"}}, {Kind: api.Object, Items: make([]api.Value, 1)},
		{Kind: api.Object, Names: []string{"a", "a"}, Items: make([]api.Value, 2)},
		{Kind: api.List, Items: []api.Value{{Kind: api.Int, Int: 5}, {Kind: 9}}}, {Kind: api.List, Int: 1}, {Kind: api.List, Names: []string{"a"}},
		nested(api.MaxDepth+1, jsonval.Of(5)), {Kind: api.True, Items: make([]api.Value, 1)}, {Kind: api.False, Text: "x"},
	}
}

// dice makes items and needs that are the same in each run, of few parts, so that much of them meets.
type dice struct{ *rand.Rand }

func newDice(seed int64) dice { return dice{rand.New(rand.NewSource(seed))} }

func pick[T any](d dice, from ...T) T { return from[d.Intn(len(from))] }

func (d dice) name() string { return pick(d, "a", "b", "0") }

func (d dice) path() string {
	return pick(d, "a", "a", "a", "a", "b", "a.b", "a.b", "a.b", "a.0", "a.b.0", "0", "a.0.b", "a.a.a", "b.1")
}

func (d dice) key() string {
	return pick(d, "k", "k1", "k10", "K", "\xff", "é", "x/y", "", "z", "\x00")
}

func (d dice) value(deep int) api.Value {
	switch kind := d.Intn(10); {
	case deep > 0 && kind < 3:
		return d.list(deep)
	case deep > 0 && kind < 5:
		return d.document(deep)
	}
	return pick(d, api.Value{}, jsonval.Flag(true), jsonval.Flag(false), jsonval.Word(""), jsonval.Word("x"), jsonval.Of(-1), jsonval.Of(0), jsonval.Of(1))
}

func (d dice) list(deep int) api.Value {
	var l []api.Value
	for range d.Intn(4) {
		l = append(l, d.value(deep-1))
	}
	return jsonval.Listed(l...)
}

func (d dice) document(deep int) api.Value {
	var names []string
	var l []api.Value
	for range d.Intn(5) {
		if name := d.name(); !slices.Contains(names, name) {
			names, l = append(names, name), append(l, d.value(deep-1))
		}
	}
	return jsonval.Named(names, l...)
}

// whole is a document that mostly has something at the paths that are asked for.
func (d dice) whole() api.Value {
	v := d.document(pick(d, 1, 2, 3))
	if d.Intn(6) == 0 {
		return v
	}
	a := d.small()
	switch d.Intn(5) {
	case 0, 1:
		a = jsonval.Named([]string{"b"}, d.small())
	case 2:
		a = jsonval.Listed(a, jsonval.Named([]string{"b"}, d.small()))
	}
	v, e := dotpath.Set(v, []string{"a"}, a)
	if e != api.OK {
		panic(e)
	}
	return v
}

// items are some, of which several may bear one Key.
func (d dice) items(most int) []api.Item {
	var l []api.Item
	for range d.Intn(most + 1) {
		l = append(l, api.Item{Key: d.key(), Version: int64(d.Intn(9)), Value: d.whole()})
	}
	return l
}

// small is a value such as many documents have.
func (d dice) small() api.Value { return d.value(pick(d, 0, 0, 1, 1, 2, 3)) }

func (d dice) spec() api.Spec {
	return api.Spec{Name: pick(d, "n", "m"), Path: d.path(), Unique: d.Intn(2) == 0}
}
