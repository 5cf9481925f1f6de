package dotpath_test

import (
	"math/rand"
	"slices"
	"strconv"
	"strings"
	"testing"

	"docket/api"
	"docket/dotpath"
	"docket/jsonval"
)

const document = `{"a":{"b":[1,{"c":2},{"c":[3]}]},"":4}`

func parsed(t *testing.T, text string) api.Value {
	t.Helper()
	v, e, at := jsonval.Parse(text)
	if e != api.OK {
		t.Fatalf("Parse(%q): %d at %d", text, e, at)
	}
	return v
}

func printed(t *testing.T, v api.Value) string {
	t.Helper()
	text, e := jsonval.Print(v)
	if e != api.OK {
		t.Fatalf("Print(%v): %d", v, e)
	}
	return text
}

// segments is the list of segments of a text, whether or not Parse takes them; of no text the empty path.
func segments(text string) []string {
	if text == "" {
		return nil
	}
	return strings.Split(text, ".")
}

func isZero(v api.Value) bool {
	return v.Kind == 0 && v.Int == 0 && v.Text == "" && v.Names == nil && v.Items == nil
}

// full tells all of a value, also what its kind does not name.
func full(v api.Value) string {
	var b strings.Builder
	b.WriteString(strconv.Itoa(v.Kind) + "/" + strconv.FormatInt(v.Int, 10) + "/" + strconv.Quote(v.Text) + "(")
	for _, name := range v.Names {
		b.WriteString(strconv.Quote(name) + " ")
	}
	b.WriteString("|")
	for _, item := range v.Items {
		b.WriteString(full(item) + " ")
	}
	return b.String() + ")"
}

// roomy is v with spare room behind each of its lists, in which something stands.
func roomy(v api.Value) api.Value {
	items := make([]api.Value, 0, len(v.Items)+2)
	for _, item := range v.Items {
		items = append(items, roomy(item))
	}
	v.Items = append(items, jsonval.Of(-1), jsonval.Of(-2))[:len(v.Items)]
	v.Names = append(append(make([]string, 0, len(v.Names)+2), v.Names...), "spare", "room")[:len(v.Names)]
	return v
}

// spare tells all of a value with what stands in the spare room of its lists.
func spare(v api.Value) string {
	v.Names, v.Items = v.Names[:cap(v.Names)], slices.Clone(v.Items[:cap(v.Items)])
	told := full(v)
	for _, item := range v.Items {
		if item.Kind == api.List || item.Kind == api.Object {
			told += spare(item)
		}
	}
	return told
}

// odd is an object or list as jsonval.Check refuses it: with what its kind does not name, with unlike numbers of names and items, with a name that stands twice.
func odd(kind int, names []string, items ...api.Value) api.Value {
	return api.Value{Kind: kind, Int: 9, Text: "t", Names: names, Items: items}
}

// dice makes values and paths that are the same in each run.
type dice struct{ *rand.Rand }

func newDice(seed int64) dice { return dice{rand.New(rand.NewSource(seed))} }

func (d dice) segment() string {
	names := []string{"a", "b", "c", "0", "1", "2", "00", "", "$", "a.b"}
	return names[d.Intn(len(names))]
}

func (d dice) path(most int) []string {
	var path []string
	for range d.Intn(most + 1) {
		path = append(path, d.segment())
	}
	return path
}

// inside is a path of v in half of the throws, so that something stands there.
func (d dice) inside(v api.Value) []string {
	var all [][]string
	for path := range dotpath.Walk(v) {
		all = append(all, path)
	}
	if len(all) == 0 || d.Intn(2) == 0 {
		return d.path(4)
	}
	path := all[d.Intn(len(all))]
	if d.Intn(3) == 0 {
		path = append(path, d.path(2)...)
	}
	return path
}

func (d dice) value(deep int) api.Value {
	if deep == 0 || d.Intn(4) == 0 {
		return jsonval.Of(int64(d.Intn(1000)))
	}
	var names []string
	var items []api.Value
	for range d.Intn(4) {
		if name := d.segment(); !slices.Contains(names, name) {
			names = append(names, name)
			items = append(items, d.value(deep-1))
		}
	}
	if d.Intn(2) == 0 {
		return jsonval.Listed(items...)
	}
	return jsonval.Named(names, items...)
}

// spoilt has values among its parts that jsonval.Check refuses.
func (d dice) spoilt(deep int) api.Value {
	v := d.value(deep)
	v.Kind = []int{api.List, api.Object, api.Object, 7, -1, api.Text, api.Null}[d.Intn(7)]
	v.Names = append(v.Names, d.path(3)...)
	for range d.Intn(4) {
		if deep > 0 {
			v.Items = append(v.Items, d.spoilt(deep-1))
		}
	}
	v.Int, v.Text = int64(d.Intn(3)), d.segment()
	return v
}
