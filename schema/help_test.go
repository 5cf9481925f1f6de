package schema_test

import (
	"fmt"
	"math"
	"math/rand"
	"slices"
	"strconv"
	"strings"
	"testing"

	"docket/api"
	"docket/jsonval"
	"docket/schema"
)

// The numbers as the document has them, so that a test does not follow a number that another one stands for.
const (
	maxRules   = 128
	maxSchemas = 8

	isOK     = 0
	isDepth  = 17
	isName   = 16
	isValue  = 18
	isRule   = 210
	isRules  = 211
	isSchema = 212
)

func TestNumbers(t *testing.T) {
	for _, c := range [][2]int{
		{maxRules, api.MaxRules}, {maxSchemas, api.MaxSchemas}, {isOK, int(api.OK)}, {isDepth, int(api.ErrDepth)}, {isName, int(api.ErrName)}, {isValue, int(api.ErrValue)},
		{isRule, int(api.ErrRule)}, {isRules, int(api.ErrRules)}, {isSchema, int(api.ErrSchema)},
	} {
		if c[0] != c[1] {
			t.Error(c)
		}
	}
}

// val is the value of a text, in which a ' stands for each ".
func val(text string) api.Value {
	v, e, at := jsonval.Parse(strings.ReplaceAll(text, "'", `"`))
	if e != isOK {
		panic(fmt.Sprint(text, ": ", e, " at ", at))
	}
	return v
}

// made is the schema of a value that must be one.
func made(t *testing.T, v api.Value) *schema.Schema {
	t.Helper()
	s, e := schema.Parse(v)
	if e != isOK || s == nil {
		t.Fatalf("Parse(%s): %v, %d", tell(v), s, e)
	}
	return s
}

// tell is a Value in full, also one that no text says.
func tell(v api.Value) string {
	if text, e := jsonval.Print(v); e == isOK {
		return text
	}
	var all []string
	for _, item := range v.Items {
		all = append(all, tell(item))
	}
	return fmt.Sprintf("(%d %d %q %q %s)", v.Kind, v.Int, v.Text, v.Names, strings.Join(all, " "))
}

// tellFault is as n/1/type, where the last is the word; empty, if there is none.
func tellFault(where []string, word string, broken bool) string {
	if !broken {
		if len(where) != 0 || word != "" {
			return fmt.Sprintf("no fault, but %q %q", where, word)
		}
		return ""
	}
	return strings.Join(append(slices.Clone(where), word), "/")
}

func object(names []string, items ...api.Value) api.Value {
	return api.Value{Kind: api.Object, Names: names, Items: items}
}

func one(name string, item api.Value) api.Value { return object([]string{name}, item) }

func list(items ...api.Value) api.Value { return api.Value{Kind: api.List, Items: items} }

// within lays v into a schema that is n schemas deeper, of these words by turns.
func within(n int, v api.Value, words ...string) api.Value {
	for i := range n {
		switch word := words[i%len(words)]; word {
		case "properties":
			v = one(word, one("a", v))
		case "anyOf", "allOf":
			v = one(word, list(v))
		default:
			v = one(word, v)
		}
	}
	return v
}

// crowd is a schema of n rules, the first of them allOf.
func crowd(n int) api.Value {
	var l []api.Value
	for range n - 1 {
		l = append(l, one("minimum", jsonval.Of(1)))
	}
	return one("allOf", list(l...))
}

// dice makes what is the same in each run, of few parts, so that much of it meets.
type dice struct{ *rand.Rand }

func newDice(seed int64) dice { return dice{rand.New(rand.NewSource(seed))} }

func pick[T any](d dice, from ...T) T { return from[d.Intn(len(from))] }

func (d dice) one(in int) bool { return d.Intn(in) == 0 }

func (d dice) name() string { return pick(d, "a", "b", "c", "", "é") }

func (d dice) text() string {
	return pick(d, "", "a", "ab", "é", "éé", "\U0001f600", "abc")
}

func (d dice) number() int64 {
	return pick[int64](d, 0, 1, 2, 3, 4, 6, -1, -2, -3, 1, 2, 3, math.MaxInt64, math.MinInt64)
}

func (d dice) value(deep int) api.Value {
	switch kind := d.Intn(14); {
	case deep > 0 && kind < 3:
		return list(d.values(4, deep-1)...)
	case deep > 0 && kind < 7:
		return d.members(4, func() api.Value { return d.value(deep - 1) })
	case kind == 7:
		return jsonval.Flag(d.one(2))
	case kind == 8:
		return api.Value{}
	case kind < 11:
		return jsonval.Word(d.text())
	}
	return jsonval.Of(d.number())
}

func (d dice) values(below, deep int) []api.Value {
	var items []api.Value
	for range d.Intn(below) {
		items = append(items, d.value(deep))
	}
	return items
}

// members are fewer than below, of names that are not alike.
func (d dice) members(below int, item func() api.Value) api.Value {
	v := api.Value{Kind: api.Object}
	for range d.Intn(below) {
		if name := d.name(); !slices.Contains(v.Names, name) {
			v.Names, v.Items = append(v.Names, name), append(v.Items, item())
		}
	}
	return v
}

// odd is a Value with parts of which jsonval.Check refuses many.
func (d dice) odd(v api.Value) api.Value {
	v.Names, v.Items = slices.Clone(v.Names), slices.Clone(v.Items)
	for i := range v.Items {
		if d.one(2) {
			v.Items[i] = d.odd(v.Items[i])
		}
	}
	switch d.Intn(12) {
	case 0:
		v.Kind = d.Intn(10) - 1
	case 1:
		v.Names = append(v.Names, d.name())
	case 2:
		v.Items = append(v.Items, d.value(1))
	case 3:
		v.Int, v.Text = int64(d.Intn(2)), pick(d, "", "x", "\xff\xfe", "\xe2\x82")
	case 4:
		if len(v.Items) > 0 {
			v.Items = v.Items[1:]
		}
	case 5:
		if len(v.Names) > 0 && len(v.Items) > 0 {
			v.Names, v.Items = append(v.Names, v.Names[0]), append(v.Items, d.value(1))
		}
	}
	return v
}

func words() []string {
	return []string{"type", "enum", "required", "properties", "additional", "items", "minItems", "maxItems", "minLength", "maxLength", "minimum", "maximum", "divisible", "anyOf", "allOf", "not"}
}

// schema is one that Parse takes, unless it grows too great.
func (d dice) schema(deep int) api.Value {
	v := api.Value{Kind: api.Object}
	for range d.Intn(4) {
		word := pick(d, words()...)
		if d.one(3) {
			word = pick(d, "properties", "items", "additional", "required")
		}
		if slices.Contains(v.Names, word) || deep == 0 && slices.Contains([]string{"properties", "items", "anyOf", "allOf", "not"}, word) {
			continue
		}
		v.Names, v.Items = append(v.Names, word), append(v.Items, d.given(word, deep))
	}
	return v
}

func (d dice) given(word string, deep int) api.Value {
	inner := func() api.Value { return d.schema(deep - 1) }
	switch word {
	case "type":
		if d.one(2) {
			return d.typeName()
		}
		return list(d.typeName(), d.typeName())
	case "enum":
		return list(append(d.values(3, 2), d.value(1))...)
	case "required":
		var l []api.Value
		for range d.Intn(3) {
			l = append(l, jsonval.Word(d.name()))
		}
		return list(l...)
	case "properties":
		return d.members(5, inner)
	case "additional":
		return jsonval.Flag(d.one(3))
	case "minItems", "maxItems", "minLength", "maxLength":
		return jsonval.Of(int64(d.Intn(4)))
	case "divisible":
		return jsonval.Of(int64(1 + d.Intn(4)))
	case "anyOf", "allOf":
		l := []api.Value{inner()}
		for range d.Intn(2) {
			l = append(l, inner())
		}
		return list(l...)
	case "items", "not":
		return inner()
	}
	return jsonval.Of(d.number())
}

// parts is a schema with others for the parts of what value makes, and what makes values with parts.
func (d dice) parts(v api.Value, value func() api.Value) (api.Value, func() api.Value) {
	if d.one(3) {
		return one("items", v), func() api.Value { return list(value(), value(), value()) }
	}
	inner := func() api.Value {
		if d.one(3) {
			return d.schema(2)
		}
		return v
	}
	return one("properties", d.members(6, inner)), func() api.Value { return d.members(6, value) }
}

func (d dice) typeName() api.Value {
	return jsonval.Word(pick(d, "null", "bool", "int", "string", "array", "object"))
}

// faulty is a schema with something thrown in that need not belong there.
func (d dice) faulty(v api.Value) api.Value {
	v.Names, v.Items = slices.Clone(v.Names), slices.Clone(v.Items)
	switch n := len(v.Items); {
	case n == 0 || d.one(6):
		return pick(d, d.value(2), list(), d.typeName(), d.schema(1), api.Value{Kind: api.Object}, jsonval.Of(d.number()), d.odd(d.value(1)))
	case len(v.Names) > 0 && d.one(4):
		v.Names[d.Intn(len(v.Names))] = pick(d, append(words(), "", "kind", "Type", "type ", "minitems")...)
	default:
		i := d.Intn(n)
		v.Items[i] = d.faulty(v.Items[i])
	}
	return v
}

// great is a schema about as great as one may be: of so many rules, or so deep; now and then with a fault thrown in somewhere.
func (d dice) great() api.Value {
	var v api.Value
	if d.one(2) {
		v = within(maxSchemas-2+d.Intn(4), d.schema(1), pick(d, "properties", "items", "not"), pick(d, "anyOf", "allOf"))
	} else {
		v = one(pick(d, "allOf", "anyOf"), list())
		for v = d.more(v); rulesIn(v) < maxRules-3+d.Intn(6); v = d.more(v) {
		}
	}
	for d.one(2) {
		v = d.faulty(v)
	}
	return v
}

// more has one schema more, behind the others.
func (d dice) more(v api.Value) api.Value {
	l := v.Items[0]
	l.Items = append(slices.Clone(l.Items), d.schema(2))
	return one(v.Names[0], l)
}

func numbers(l ...int) string {
	var all []string
	for _, n := range l {
		all = append(all, strconv.Itoa(n))
	}
	return strings.Join(all, " ")
}
