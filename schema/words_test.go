package schema_test

import (
	"slices"
	"strconv"
	"testing"
	"unicode/utf8"

	"docket/api"
	"docket/jsonval"
	"docket/schema"
)

// The chapter's words, one behind the other, written as they stand.

// parseByWords: P21.1, and P21.4's number of rules.
func parseByWords(v api.Value) (int, api.Errno) {
	if e := jsonval.Check(v); e != isOK {
		return 0, e
	}
	number := 0
	if e := schemaByWords(v, 0, &number); e != isOK {
		return 0, e
	}
	return number, isOK
}

func schemaByWords(v api.Value, depth int, number *int) api.Errno {
	if v.Kind != api.Object {
		return isRule
	}
	if depth > maxSchemas {
		return isRules
	}
	for i, word := range v.Names {
		if *number == maxRules {
			return isRules
		}
		if !fits(word, v.Items[i]) {
			return isRule
		}
		*number++
		for _, inner := range schemasOf(word, v.Items[i]) {
			if e := schemaByWords(inner, depth+1, number); e != isOK {
				return e
			}
		}
	}
	return isOK
}

// fits is what the table says that a word is given, but that nothing is asked of the schemas in it.
func fits(word string, x api.Value) bool {
	switch word {
	case "type":
		return isType(x) || x.Kind == api.List && len(x.Items) > 0 && all(x.Items, isType)
	case "enum", "anyOf", "allOf":
		return x.Kind == api.List && len(x.Items) > 0
	case "required":
		return x.Kind == api.List && all(x.Items, func(item api.Value) bool { return item.Kind == api.Text })
	case "properties":
		return x.Kind == api.Object
	case "additional":
		return x.Kind == api.True || x.Kind == api.False
	case "items", "not":
		return true
	case "minItems", "maxItems", "minLength", "maxLength":
		return x.Kind == api.Int && x.Int >= 0
	case "minimum", "maximum":
		return x.Kind == api.Int
	case "divisible":
		return x.Kind == api.Int && x.Int >= 1
	}
	return false
}

func isType(x api.Value) bool {
	return x.Kind == api.Text && slices.Contains([]string{"null", "bool", "int", "string", "array", "object"}, x.Text)
}

func all(l []api.Value, holds func(v api.Value) bool) bool {
	for _, v := range l {
		if !holds(v) {
			return false
		}
	}
	return true
}

// schemasOf are what must be schemas in a rule.
func schemasOf(word string, x api.Value) []api.Value {
	switch word {
	case "items", "not":
		return []api.Value{x}
	case "properties", "anyOf", "allOf":
		return x.Items
	}
	return nil
}

// rulesIn counts the rules of a value that is a schema, whatever there may be.
func rulesIn(v api.Value) int {
	n := len(v.Names)
	for i, word := range v.Names {
		for _, inner := range schemasOf(word, v.Items[i]) {
			n += rulesIn(inner)
		}
	}
	return n
}

// keptByWords: P21.2.
func keptByWords(s, v api.Value) bool {
	for i, word := range s.Names {
		if !ruleByWords(s, word, s.Items[i], v) {
			return false
		}
	}
	return true
}

// ruleByWords is the table's last column.
func ruleByWords(s api.Value, word string, x, v api.Value) bool {
	switch word {
	case "type":
		return x.Kind == api.Text && x.Text == typeByWords(v) || slices.ContainsFunc(x.Items, func(item api.Value) bool { return item.Text == typeByWords(v) })
	case "enum":
		return slices.ContainsFunc(x.Items, func(item api.Value) bool { return jsonval.Equal(item, v) })
	case "required":
		return v.Kind != api.Object || all(x.Items, func(name api.Value) bool { return slices.Contains(namesOf(v), name.Text) })
	case "additional":
		return x.Kind == api.True || v.Kind != api.Object || !slices.ContainsFunc(namesOf(v), func(name string) bool { return !slices.Contains(propertiesOf(s).Names, name) })
	case "properties", "items":
		for _, p := range partsByWords(word, x, v) {
			if !keptByWords(p.schema, p.item) {
				return false
			}
		}
		return true
	case "anyOf":
		return slices.ContainsFunc(x.Items, func(inner api.Value) bool { return keptByWords(inner, v) })
	case "allOf":
		return all(x.Items, func(inner api.Value) bool { return keptByWords(inner, v) })
	case "not":
		return !keptByWords(x, v)
	}
	return numberByWords(word, x.Int, v)
}

func numberByWords(word string, x int64, v api.Value) bool {
	items, characters := int64(len(v.Items)), int64(utf8.RuneCountInString(v.Text))
	switch word {
	case "minItems":
		return v.Kind != api.List || items >= x
	case "maxItems":
		return v.Kind != api.List || items <= x
	case "minLength":
		return v.Kind != api.Text || characters >= x
	case "maxLength":
		return v.Kind != api.Text || characters <= x
	case "minimum":
		return v.Kind != api.Int || v.Int >= x
	case "maximum":
		return v.Kind != api.Int || v.Int <= x
	}
	return v.Kind != api.Int || v.Int%x == 0 // divisible
}

func typeByWords(v api.Value) string {
	switch v.Kind {
	case api.Null:
		return "null"
	case api.False, api.True:
		return "bool"
	case api.Int:
		return "int"
	case api.Text:
		return "string"
	case api.List:
		return "array"
	case api.Object:
		return "object"
	}
	return "none of them"
}

// namesOf are those of an object's members: as far as both Names and Items go.
func namesOf(v api.Value) []string { return v.Names[:min(len(v.Names), len(v.Items))] }

func propertiesOf(s api.Value) api.Value {
	if i := slices.Index(s.Names, "properties"); i >= 0 {
		return s.Items[i]
	}
	return api.Value{}
}

// part is something in a value, with its name or number, and the schema that is for it.
type part struct {
	step   string
	schema api.Value
	item   api.Value
}

// partsByWords are in the order in which they are told.
func partsByWords(word string, x, v api.Value) []part {
	var l []part
	if word == "items" && v.Kind == api.List {
		for i, item := range v.Items {
			l = append(l, part{strconv.Itoa(i), x, item})
		}
	}
	if word == "properties" && v.Kind == api.Object {
		for i, property := range x.Names {
			for k, name := range namesOf(v) {
				if name == property {
					l = append(l, part{name, x.Items[i], v.Items[k]})
				}
			}
		}
	}
	return l
}

// faultByWords: P21.3.
func faultByWords(s, v api.Value) ([]string, string, bool) {
	for i, word := range s.Names {
		if ruleByWords(s, word, s.Items[i], v) {
			continue
		}
		for _, p := range partsByWords(word, s.Items[i], v) {
			if where, word, broken := faultByWords(p.schema, p.item); broken {
				return slices.Insert(where, 0, p.step), word, true
			}
		}
		return nil, word, true
	}
	return nil, "", false
}

// holdParse holds Parse's answer and, where there is a schema, Rules against the words.
func holdParse(t *testing.T, v api.Value) (*schema.Schema, api.Errno) {
	t.Helper()
	n, want := parseByWords(v)
	s, e := schema.Parse(v)
	if e != want || (s == nil) != (e != isOK) {
		t.Fatalf("Parse(%s): %v, %d, not %d", tell(v), s, e, want)
	}
	if s.Rules() != n {
		t.Fatalf("Rules of %s: %d, not %d", tell(v), s.Rules(), n)
	}
	return s, e
}

// P21.1, P21.4, on schemas, and on much that is none.
func TestParseByWords(t *testing.T) {
	d := newDice(211)
	errors := map[api.Errno]int{}
	for range 60000 {
		v := d.schema(3)
		switch d.Intn(6) {
		case 0, 1, 2:
			v = d.faulty(v)
		case 3:
			v = d.great()
		case 4:
			v = d.odd(d.faulty(v))
		}
		_, e := holdParse(t, v)
		errors[e]++
	}
	for _, e := range []api.Errno{isOK, isValue, isName, isRule, isRules} {
		if errors[e] < 300 {
			t.Errorf("%d: only %d schemas", e, errors[e])
		}
	}
}

// P21.2, P21.3, on values, and on such as are none; each word is broken, and many in a part of a value.
func TestFaultByWords(t *testing.T) {
	d := newDice(212)
	broken, kept, deep := map[string]int{}, 0, map[int]int{}
	for range 40000 {
		v, value := d.schema(3), func() api.Value { return d.value(3) }
		for range d.Intn(3) {
			v, value = d.parts(v, value)
		}
		s, e := holdParse(t, v)
		if e != isOK {
			continue
		}
		for range 4 {
			x := value()
			if d.one(4) {
				x = d.odd(x)
			}
			where, word, is := s.Fault(x)
			got, want := tellFault(where, word, is), tellFault(faultByWords(v, x))
			if got != want {
				t.Fatalf("Fault of %s by %s: %q, not %q", tell(x), tell(v), got, want)
			}
			if (s.Check(x) == isOK) != keptByWords(v, x) || s.Check(x) != isOK && s.Check(x) != isSchema {
				t.Fatalf("Check of %s by %s: %d", tell(x), tell(v), s.Check(x))
			}
			if !is {
				kept++
				continue
			}
			broken[word]++
			deep[len(where)]++
		}
	}
	if kept < 20000 || min(deep[0], deep[1], deep[2]) < 2000 || deep[3] < 100 {
		t.Errorf("%d values keep all, the others break a rule in %v", kept, deep)
	}
	for _, word := range words() {
		if word != "properties" && word != "items" && broken[word] < 200 {
			t.Errorf("%s is broken %d times", word, broken[word])
		}
	}
	if broken["properties"]+broken["items"] != 0 {
		t.Error(broken)
	}
}
