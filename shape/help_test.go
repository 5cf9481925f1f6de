package shape_test

import (
	"math/rand"
	"slices"
	"strconv"
	"strings"
	"testing"

	"docket/api"
	"docket/dotpath"
	"docket/jsonval"
	"docket/shape"
)

func parsed(t *testing.T, text string) api.Value {
	t.Helper()
	v, e, at := jsonval.Parse(text)
	if e != api.OK {
		t.Fatalf("Parse(%q): %d at %d", text, e, at)
	}
	return v
}

func printed(t *testing.T, v api.Value) string {
	t.Helper()
	text, e := jsonval.Print(v)
	if e != api.OK {
		t.Fatalf("Print(%s): %d", full(v), e)
	}
	return text
}

// sorting is the order of a text that must be one.
func sorting(t *testing.T, text string) *shape.Sort {
	t.Helper()
	s, e := shape.ParseSort(parsed(t, text))
	if e != api.OK || s == nil {
		t.Fatalf("ParseSort(%s): %d", text, e)
	}
	return s
}

// letting is the fields of a text that must be some.
func letting(t *testing.T, text string) *shape.Fields {
	t.Helper()
	f, e := shape.ParseFields(parsed(t, text))
	if e != api.OK || f == nil {
		t.Fatalf("ParseFields(%s): %d", text, e)
	}
	return f
}

// documents have the ids a, b, c .. in the order of the texts.
func documents(t *testing.T, texts ...string) []api.Doc {
	t.Helper()
	var l []api.Doc
	for i, text := range texts {
		l = append(l, api.Doc{Id: string(rune('a' + i)), Version: int64(100 - i), Value: parsed(t, text)})
	}
	return l
}

func ids(l []api.Doc) string {
	var all []string
	for _, d := range l {
		all = append(all, d.Id)
	}
	return strings.Join(all, " ")
}

// told is all of documents, as texts.
func told(l []api.Doc) []string {
	var all []string
	for _, d := range l {
		all = append(all, strconv.Quote(d.Id)+"@"+strconv.FormatInt(d.Version, 10)+"="+full(d.Value))
	}
	return all
}

func values(l []api.Value) []string {
	var all []string
	for _, v := range l {
		all = append(all, full(v))
	}
	return all
}

func object(name string, item api.Value) api.Value {
	return jsonval.Named([]string{name}, item)
}

// odd is a Value of these parts, whatever they are.
func odd(kind int, names []string, items ...api.Value) api.Value {
	return api.Value{Kind: kind, Names: names, Items: items}
}

// full tells all of a value, also what its kind does not name.
func full(v api.Value) string {
	if text, e := jsonval.Print(v); e == api.OK {
		return text
	}
	var b strings.Builder
	b.WriteString(strconv.Itoa(v.Kind) + "/" + strconv.FormatInt(v.Int, 10) + "/" + strconv.Quote(v.Text) + "(")
	for _, name := range v.Names {
		b.WriteString(strconv.Quote(name) + " ")
	}
	b.WriteString("|")
	for _, item := range v.Items {
		b.WriteString(full(item) + " ")
	}
	return b.String() + ")"
}

// roomy is v with spare room behind each of its lists, in which something stands.
func roomy(v api.Value) api.Value {
	items := make([]api.Value, 0, len(v.Items)+2)
	for _, item := range v.Items {
		items = append(items, roomy(item))
	}
	v.Items = append(items, jsonval.Of(-1), jsonval.Of(-2))[:len(v.Items)]
	v.Names = append(append(make([]string, 0, len(v.Names)+2), v.Names...), "spare", "room")[:len(v.Names)]
	return v
}

// spare tells all of a value with what stands in the spare room of its lists.
func spare(v api.Value) string {
	told := full(v) + strings.Join(v.Names[:cap(v.Names)], " ")
	for _, item := range v.Items[:cap(v.Items)] {
		told += " " + full(item)
	}
	for _, item := range v.Items {
		told += spare(item)
	}
	return told
}

// nested is inner within n lists.
func nested(n int, inner api.Value) api.Value {
	for range n {
		inner = api.Value{Kind: api.List, Items: []api.Value{inner}}
	}
	return inner
}

// many is an object of n members that a function names, all with one item.
func many(n int, item api.Value, name func(i int) string) api.Value {
	v := api.Value{Kind: api.Object}
	for i := range n {
		v.Names, v.Items = append(v.Names, name(i)), append(v.Items, item)
	}
	return v
}

// dice makes values, orders and fields that are the same in each run, of few parts, so that much of them meets.
type dice struct{ *rand.Rand }

func newDice(seed int64) dice { return dice{rand.New(rand.NewSource(seed))} }

func pick[T any](d dice, from ...T) T { return from[d.Intn(len(from))] }

func (d dice) name() string { return pick(d, "a", "b", "c", "d", "0", "1") }

func (d dice) value(deep int) api.Value {
	switch kind := d.Intn(11); {
	case deep > 0 && kind < 3:
		return d.list(deep)
	case deep > 0 && kind < 7:
		return d.document(deep)
	case kind == 7:
		return pick(d, api.Value{}, jsonval.Flag(true), jsonval.Flag(false))
	case kind == 8:
		return jsonval.Word(pick(d, "", "x", "y"))
	}
	return jsonval.Of(int64(d.Intn(4)))
}

func (d dice) list(deep int) api.Value {
	var items []api.Value
	for range d.Intn(4) {
		items = append(items, d.value(deep-1))
	}
	return jsonval.Listed(items...)
}

func (d dice) document(deep int) api.Value {
	var names []string
	var items []api.Value
	for range d.Intn(6) {
		if name := d.name(); !slices.Contains(names, name) {
			names, items = append(names, name), append(items, d.value(deep-1))
		}
	}
	return jsonval.Named(names, items...)
}

// docs are documents with unlike ids, in no order.
func (d dice) docs(n, deep int) []api.Doc {
	var l []api.Doc
	for _, i := range d.Perm(n) {
		l = append(l, api.Doc{Id: d.id(i), Version: int64(d.Intn(3)), Value: d.document(deep)})
	}
	return l
}

// id is one of its own for each number; their order is another than that of the numbers.
func (d dice) id(i int) string {
	return pick(d, "", "x", "\xff", "é", "\x00") + strconv.Itoa(i)
}

// place is mostly the path of a place in v.
func (d dice) place(v api.Value) []string {
	var all [][]string
	for path := range dotpath.Walk(v) {
		all = append(all, path)
	}
	if len(all) == 0 || d.Intn(4) == 0 {
		return []string{d.name(), d.name()}[:1+d.Intn(2)]
	}
	return slices.Clone(pick(d, all...))
}

// named is a path of v without indices.
func (d dice) named(v api.Value) []string {
	path := slices.DeleteFunc(d.place(v), func(segment string) bool {
		_, number := dotpath.Index(segment)
		return number
	})
	if len(path) == 0 {
		return []string{"a"}
	}
	return path
}

// order is an order for documents like v.
func (d dice) order(v api.Value) api.Value {
	o := api.Value{Kind: api.Object}
	for range d.Intn(4) {
		path := d.place(v)
		if d.Intn(2) == 0 {
			path = d.named(v)
		}
		if name := strings.Join(path, "."); !slices.Contains(o.Names, name) {
			o.Names, o.Items = append(o.Names, name), append(o.Items, jsonval.Of(pick(d, int64(1), -1)))
		}
	}
	return o
}

// fields are some for documents like v: the paths that clash with one ahead are left out.
func (d dice) fields(v api.Value, item int64) api.Value {
	o := api.Value{Kind: api.Object}
	var paths [][]string
	for range d.Intn(6) {
		paths = append(paths, d.named(v))
		if _, clash := dotpath.Clashes(paths); clash {
			paths = paths[:len(paths)-1]
			continue
		}
		o.Names, o.Items = append(o.Names, strings.Join(paths[len(paths)-1], ".")), append(o.Items, jsonval.Of(item))
	}
	return o
}

// faulty is an object of names to items with something thrown in that need not belong there.
func (d dice) faulty(v api.Value) api.Value {
	v.Names, v.Items = slices.Clone(v.Names), slices.Clone(v.Items)
	for range 1 + d.Intn(2) {
		n := len(v.Names)
		switch k := d.Intn(12); {
		case k == 0:
			return pick(d, d.value(2), api.Value{}, jsonval.Listed(v), jsonval.Of(1))
		case k < 3 && n > 0:
			v.Names[d.Intn(n)] = pick(d, "", "a..b", "$a", "a.$b", ".", "a.", strings.Repeat("s", 65), strings.Repeat("a.", 16)+"a", "a.0", "0", "b.00")
		case k < 6 && n > 0:
			v.Items[d.Intn(len(v.Items))] = pick(d, jsonval.Of(0), jsonval.Of(1), jsonval.Of(-1), jsonval.Of(2), jsonval.Word("1"), jsonval.Flag(true), api.Value{}, jsonval.Listed(jsonval.Of(1)), object("a", jsonval.Of(1)))
		case k < 8 && n > 0:
			i := d.Intn(n)
			v.Names, v.Items = append(v.Names, pick(d, v.Names[i], v.Names[i]+".x", strings.Split(v.Names[i], ".")[0])), append(v.Items, v.Items[i])
		case k < 10 && n > 0:
			item := v.Items[0]
			for i := range pick(d, 8, 9, 31, 32, 33) - n {
				v.Names, v.Items = append(v.Names, "m"+strconv.Itoa(i)), append(v.Items, item)
			}
		case k == 10:
			v.Names = append(v.Names, "q")
		case k == 11:
			v.Items = append(v.Items, jsonval.Of(1))
		}
		if len(v.Names) != len(v.Items) {
			return v
		}
	}
	return v
}

// spoilt is a value with parts that jsonval.Check refuses.
func (d dice) spoilt(v api.Value) api.Value {
	v.Names, v.Items = slices.Clone(v.Names), slices.Clone(v.Items)
	if len(v.Items) > 0 && d.Intn(3) > 0 {
		i := d.Intn(len(v.Items))
		v.Items[i] = d.spoilt(v.Items[i])
		return v
	}
	switch d.Intn(6) {
	case 0:
		v.Kind = pick(d, -1, 7, api.List, api.Object, api.Text)
	case 1:
		v.Names = append(v.Names, d.name())
	case 2:
		v.Text += pick(d, "\xff", "x")
	case 3:
		v = nested(api.MaxDepth+1, v)
	case 4:
		v = odd(api.Object, []string{"a", "a"}, v, d.value(1))
	case 5:
		v.Items = append(v.Items, jsonval.Of(5))
	}
	return v
}
