package catalog_test

import (
	"fmt"
	"math/rand"
	"slices"
	"strings"
	"testing"

	"docket/api"
	"docket/catalog"
	"docket/jsonval"
)

// The numbers as the document has them, so that a test does not follow a number that another one stands for.
const (
	maxIndexes  = 8
	maxColls    = 64
	maxCapacity = 100000

	isOK       = 0
	isArg      = 2
	isFull     = 5
	isNone     = 7
	isThere    = 8
	isValue    = 18
	isPath     = 20
	isIndexed  = 170
	isUnique   = 171
	isRule     = 210
	isRules    = 211
	isSchema   = 212
	isNotEmpty = 220
	isCapacity = 221
	isColl     = 222

	eq  = 1
	gt  = 2
	gte = 3
	lt  = 4
	lte = 5
	in  = 6
)

func TestNumbers(t *testing.T) {
	for _, c := range [][2]int{
		{maxIndexes, api.MaxIndexes}, {maxColls, api.MaxColls}, {maxCapacity, api.MaxCapacity},
		{isOK, int(api.OK)}, {isArg, int(api.ErrArg)}, {isFull, int(api.ErrFull)}, {isNone, int(api.ErrNone)}, {isThere, int(api.ErrThere)}, {isValue, int(api.ErrValue)},
		{isPath, int(api.ErrPath)}, {isIndexed, int(api.ErrIndexed)}, {isUnique, int(api.ErrUnique)}, {isRule, int(api.ErrRule)}, {isRules, int(api.ErrRules)}, {isSchema, int(api.ErrSchema)},
		{isNotEmpty, int(api.ErrNotEmpty)}, {isCapacity, int(api.ErrCapacity)}, {isColl, int(api.ErrColl)},
		{eq, api.NeedEq}, {gt, api.NeedGt}, {gte, api.NeedGte}, {lt, api.NeedLt}, {lte, api.NeedLte}, {in, api.NeedIn},
	} {
		if c[0] != c[1] {
			t.Error(c)
		}
	}
}

// val is the value of a text, in which a ' stands for each ".
func val(text string) api.Value {
	v, e, at := jsonval.Parse(strings.ReplaceAll(text, "'", `"`))
	if e != isOK {
		panic(fmt.Sprint(text, ": ", e, " at ", at))
	}
	return v
}

// items reads some from texts as `a {'t':5}`: the Key, a blank, the value.
func items(texts ...string) []api.Item {
	var l []api.Item
	for i, text := range texts {
		key, value, _ := strings.Cut(text, " ")
		l = append(l, api.Item{Key: key, Version: int64(i), Value: val(value)})
	}
	return l
}

// crowd are n items of unlike Keys, which all have another number at t.
func crowd(n int) []api.Item {
	var l []api.Item
	for i := range n {
		l = append(l, api.Item{Key: fmt.Sprint("k", i), Value: jsonval.Named([]string{"t"}, jsonval.Of(int64(i)))})
	}
	return l
}

// spec is of the name and the path t; a ! behind the name says that it is unique.
func spec(name string) api.Spec {
	name, unique := strings.CutSuffix(name, "!")
	return api.Spec{Name: name, Path: "t", Unique: unique}
}

// taken is a catalog that a call must have made.
func taken(t *testing.T, c *catalog.Catalog, e api.Errno) *catalog.Catalog {
	t.Helper()
	if e != isOK || c == nil {
		t.Fatalf("%v, %d", c, e)
	}
	return c
}

func wantRefused(t *testing.T, what string, c *catalog.Catalog, e, want api.Errno) {
	t.Helper()
	if c != nil || e != want {
		t.Errorf("%s: %v, %d, not %d", what, c, e, want)
	}
}

func created(t *testing.T, c *catalog.Catalog, name string, most int64, rules string) *catalog.Catalog {
	t.Helper()
	d, e := c.Create(name, most, val(rules))
	return taken(t, d, e)
}

func dropped(t *testing.T, c *catalog.Catalog, name string) *catalog.Catalog {
	t.Helper()
	d, e := c.Drop(name)
	return taken(t, d, e)
}

func indexed(t *testing.T, c *catalog.Catalog, name string, s api.Spec, l []api.Item) *catalog.Catalog {
	t.Helper()
	d, e := c.Index(name, s, l)
	return taken(t, d, e)
}

func unindexed(t *testing.T, c *catalog.Catalog, name, index string) *catalog.Catalog {
	t.Helper()
	d, e := c.Unindex(name, index)
	return taken(t, d, e)
}

func committed(t *testing.T, c *catalog.Catalog, name string, was, now []api.Item) *catalog.Catalog {
	t.Helper()
	d, e := c.Commit(name, was, now)
	return taken(t, d, e)
}

// only is a catalog with the one collection c.
func only(t *testing.T, most int64, rules string) *catalog.Catalog {
	t.Helper()
	return created(t, catalog.New(), "c", most, rules)
}

// filled is a catalog with so many collections, whose names are n0, n1 ..
func filled(t *testing.T, c *catalog.Catalog, n int) *catalog.Catalog {
	t.Helper()
	for i := range n {
		c = created(t, c, fmt.Sprint("n", i), 0, "null")
	}
	return c
}

// full is a Value as one text, also one that no text says.
func full(v api.Value) string {
	if text, e := jsonval.Print(v); e == isOK {
		return text
	}
	var all []string
	for _, item := range v.Items {
		all = append(all, full(item))
	}
	return fmt.Sprintf("(%d %d %q %q %s)", v.Kind, v.Int, v.Text, v.Names, strings.Join(all, " "))
}

func itemsText(l []api.Item) string {
	var all []string
	for _, x := range l {
		all = append(all, fmt.Sprint(x.Key, "@", x.Version, full(x.Value)))
	}
	return strings.Join(all, ", ")
}

// collText tells a collection but for what its indexes have.
func collText(k api.Coll) string {
	return fmt.Sprintf("%s %d/%d %s %v %v", k.Name, k.Count, k.Most, full(k.Schema), k.Top, k.Specs)
}

// wantColls holds what is told of all collections against lines as collText has them, by rising names.
func wantColls(t *testing.T, c *catalog.Catalog, want ...string) {
	t.Helper()
	var got []string
	for _, name := range c.Names() {
		k, there := c.Coll(name)
		if !there || k.Name != name {
			t.Errorf("%s: %v, %v", name, k, there)
		}
		got = append(got, collText(k))
	}
	if !slices.Equal(got, want) {
		t.Errorf("%q, not %q", got, want)
	}
}

// probes are needs that tell apart what is in an index of a path, as far as the tests' documents go.
func probes(path string) []api.Need {
	var l []api.Need
	for _, text := range []string{`null`, `false`, `true`, `-1`, `0`, `1`, `2`, `3`, `5`, `7`, `''`, `'x'`, `[]`, `[1]`, `[1,2]`, `{}`} {
		l = append(l, api.Need{Path: path, Op: eq, Value: val(text)}, api.Need{Path: path, Op: gte, Value: val(text)}, api.Need{Path: path, Op: gt, Value: val(text)})
	}
	return l
}

// chosen is what Choose tells, as one text.
func chosen(ids []string, name string, there bool) string {
	return fmt.Sprintf("%q %s %v", ids, name, there)
}

// entriesText tells what each index of a collection has, by a catalog with that index alone.
func entriesText(c *catalog.Catalog, name string) string {
	var all []string
	k, _ := c.Coll(name)
	for _, s := range k.Specs {
		d := c
		for _, other := range k.Specs {
			if other != s {
				d, _ = d.Unindex(name, other.Name)
			}
		}
		for _, n := range probes(s.Path) {
			all = append(all, chosen(d.Choose(name, []api.Need{n})))
		}
	}
	return strings.Join(all, "; ")
}

// told is all of a catalog.
func told(c *catalog.Catalog) string {
	var all []string
	for _, name := range c.Names() {
		k, _ := c.Coll(name)
		all = append(all, collText(k), entriesText(c, name))
	}
	return strings.Join(all, "\n")
}

// nested is inner within n lists.
func nested(n int, inner api.Value) api.Value {
	for range n {
		inner = jsonval.Listed(inner)
	}
	return inner
}

// noValues are such that jsonval.Check refuses; none is of the Kind Null.
func noValues() []api.Value {
	return []api.Value{
		{Kind: 7}, {Kind: -1}, {Kind: api.Int, Int: 5, Text: "x"}, {Kind: api.Text, Text: "\xff"},
		{Kind: api.Object, Names: []string{"t"}}, {Kind: api.Object, Items: make([]api.Value, 1)},
		{Kind: api.Object, Names: []string{"t", "t"}, Items: make([]api.Value, 2)},
		{Kind: api.List, Items: []api.Value{{Kind: api.Int, Int: 5}, {Kind: 9}}}, {Kind: api.List, Int: 1},
		nested(api.MaxDepth+1, jsonval.Of(5)), {Kind: api.True, Items: make([]api.Value, 1)}, {Kind: api.False, Text: "x"},
	}
}

// dice makes what is the same in each run, of few parts, so that much of it meets.
type dice struct{ *rand.Rand }

func newDice(seed int64) dice { return dice{rand.New(rand.NewSource(seed))} }

func pick[T any](d dice, from ...T) T { return from[d.Intn(len(from))] }

func (d dice) one(in int) bool { return d.Intn(in) == 0 }

func (d dice) name() string { return pick(d, "c", "c", "c", "d", "e") }

func (d dice) key() string { return pick(d, "a", "b", "x/y", "~", "k", "l") }

func (d dice) path() string { return pick(d, "t", "t", "u", "t.u") }

// document is such that many have one value, and many have other kinds at a path.
func (d dice) document() api.Value {
	small := func() string {
		return pick(d, "null", "true", "1", "2", "3", "5", "7", "'x'", "''", "[1]", "[1,2]", "[]", "[5,'x']", "{}", "{'u':1}", "[{'u':2}]")
	}
	return val(pick(d, "{}", "{'t':"+small()+"}", "{'t':"+small()+"}", "{'u':"+small()+"}", "{'u':"+small()+",'t':"+small()+"}"))
}

func (d dice) items(below int) []api.Item {
	var l []api.Item
	for range d.Intn(below) {
		l = append(l, api.Item{Key: d.key(), Version: int64(d.Intn(9)), Value: d.document()})
	}
	return l
}

func (d dice) spec() api.Spec {
	return api.Spec{Name: pick(d, "n", "m", "o"), Path: d.path(), Unique: d.one(2)}
}

func (d dice) rules() api.Value {
	return val(pick(d, "null", "null", "{}", "{'required':['t']}", "{'properties':{'t':{'type':['int','array','string']}}}"))
}
