package filter_test

import (
	"math"
	"math/rand"
	"slices"
	"strconv"
	"strings"
	"testing"

	"docket/api"
	"docket/filter"
	"docket/jsonval"
)

func parsed(t *testing.T, text string) api.Value {
	t.Helper()
	v, e, at := jsonval.Parse(text)
	if e != api.OK {
		t.Fatalf("Parse(%q): %d at %d", text, e, at)
	}
	return v
}

// made is the filter of a query that must be one.
func made(t *testing.T, q api.Value) *filter.Filter {
	t.Helper()
	f, e := filter.Parse(q)
	if e != api.OK || f == nil {
		t.Fatalf("Parse(%s): %v, %d", full(q), f, e)
	}
	return f
}

func matched(t *testing.T, query, document string) bool {
	t.Helper()
	return made(t, parsed(t, query)).Match(parsed(t, document))
}

// odd is a Value of these parts, whatever they are.
func odd(kind int, names []string, items ...api.Value) api.Value {
	return api.Value{Kind: kind, Names: names, Items: items}
}

func object(name string, item api.Value) api.Value {
	return jsonval.Named([]string{name}, item)
}

// full tells all of a value, also what its kind does not name.
func full(v api.Value) string {
	var b strings.Builder
	b.WriteString(strconv.Itoa(v.Kind) + "/" + strconv.FormatInt(v.Int, 10) + "/" + strconv.Quote(v.Text) + "(")
	for _, name := range v.Names {
		b.WriteString(strconv.Quote(name) + " ")
	}
	b.WriteString("|")
	for _, item := range v.Items {
		b.WriteString(full(item) + " ")
	}
	return b.String() + ")"
}

// nested is inner within n lists.
func nested(n int, inner api.Value) api.Value {
	for range n {
		inner = api.Value{Kind: api.List, Items: []api.Value{inner}}
	}
	return inner
}

// dice makes values and queries that are the same in each run, of few parts, so that much of them meets.
type dice struct{ *rand.Rand }

func newDice(seed int64) dice { return dice{rand.New(rand.NewSource(seed))} }

func pick[T any](d dice, from ...T) T { return from[d.Intn(len(from))] }

func (d dice) name() string { return pick(d, "a", "b", "0", "1") }

func (d dice) path() string {
	path := d.name()
	for d.Intn(3) == 0 {
		path += "." + d.name()
	}
	return path
}

func (d dice) value(deep int) api.Value {
	switch kind := d.Intn(12); {
	case deep > 0 && kind < 3:
		return jsonval.Listed(d.values(deep-1, 4)...)
	case deep > 0 && kind < 6:
		return d.document(deep)
	case kind == 6:
		return jsonval.Flag(d.Intn(2) == 0)
	case kind == 7:
		return api.Value{}
	case kind == 8:
		return jsonval.Word(pick(d, "", "x", "y", "$eq"))
	case kind == 9:
		return jsonval.Of(pick(d, math.MaxInt64, math.MinInt64, int64(-3)))
	}
	return jsonval.Of(int64(d.Intn(4)))
}

func (d dice) values(deep, below int) []api.Value {
	var items []api.Value
	for range d.Intn(below) {
		items = append(items, d.value(deep))
	}
	return items
}

func (d dice) document(deep int) api.Value {
	var names []string
	var items []api.Value
	for range d.Intn(4) {
		if name := d.name(); !slices.Contains(names, name) {
			names, items = append(names, name), append(items, d.value(deep-1))
		}
	}
	return jsonval.Named(names, items...)
}

// spoilt is a value with parts of which jsonval.Check refuses many.
func (d dice) spoilt(v api.Value) api.Value {
	v.Names, v.Items = slices.Clone(v.Names), slices.Clone(v.Items)
	for i := range v.Items {
		v.Items[i] = d.spoilt(v.Items[i])
	}
	switch d.Intn(12) {
	case 0:
		v.Kind = d.Intn(10) - 1
	case 1:
		v.Names = append(v.Names, d.name())
	case 2:
		v.Items = append(v.Items, d.value(1))
	case 3:
		v.Int, v.Text = int64(d.Intn(2)), pick(d, "", "x")
	case 4:
		if len(v.Items) > 0 {
			v.Items = v.Items[1:]
		}
	}
	return v
}

// query is one that Parse takes, unless it grows too great.
func (d dice) query(deep int) api.Value {
	q := api.Value{Kind: api.Object}
	for range 1 + d.Intn(3) {
		name, item := d.path(), d.value(1)
		switch kind := d.Intn(6); {
		case deep > 0 && kind == 0:
			name, item = pick(d, "$and", "$or", "$nor"), jsonval.Listed(d.queries(deep-1)...)
		case kind < 5:
			item = d.test(deep)
		}
		q.Names, q.Items = append(q.Names, name), append(q.Items, item)
	}
	return q
}

func (d dice) queries(deep int) []api.Value {
	var l []api.Value
	for range 1 + d.Intn(2) {
		l = append(l, d.query(deep))
	}
	return l
}

func (d dice) test(deep int) api.Value {
	t := api.Value{Kind: api.Object}
	for range 1 + d.Intn(2) {
		name := pick(d, operators()...)
		t.Names, t.Items = append(t.Names, name), append(t.Items, d.operand(name, deep))
	}
	return t
}

func operators() []string {
	return []string{"$eq", "$ne", "$gt", "$gte", "$lt", "$lte", "$in", "$nin", "$all", "$exists", "$type", "$size", "$mod", "$not", "$elemMatch"}
}

func (d dice) operand(operator string, deep int) api.Value {
	switch operator {
	case "$in", "$nin", "$all":
		return jsonval.Listed(d.values(1, 3)...)
	case "$exists":
		return jsonval.Flag(d.Intn(2) == 0)
	case "$type":
		return jsonval.Word(pick(d, "null", "bool", "int", "string", "array", "object"))
	case "$size":
		return jsonval.Of(int64(d.Intn(4)))
	case "$mod":
		return jsonval.Listed(jsonval.Of(pick(d, int64(1), 2, 3, -2, -1)), jsonval.Of(int64(d.Intn(4)-1)))
	case "$not":
		return d.test(deep - 1)
	case "$elemMatch":
		if d.Intn(2) == 0 {
			return d.query(deep - 1)
		}
		return d.test(deep - 1)
	}
	return d.value(2)
}

// faulty is a query with something thrown in that need not belong there.
func (d dice) faulty(v api.Value) api.Value {
	v.Names, v.Items = slices.Clone(v.Names), slices.Clone(v.Items)
	names := append(operators(), "$and", "$or", "$nor", "$x", "$", "", "a..b", "a", "a.$b", "b")
	switch n := len(v.Items); {
	case n == 0 || d.Intn(6) == 0:
		return pick(d, d.value(2), jsonval.Listed(), d.test(1), d.query(1), api.Value{Kind: api.Object})
	case len(v.Names) > 0 && d.Intn(3) == 0:
		v.Names[d.Intn(len(v.Names))] = pick(d, names...)
	default:
		i := d.Intn(n)
		v.Items[i] = d.faulty(v.Items[i])
	}
	return v
}
