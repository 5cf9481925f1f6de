package schema

import (
	"slices"

	"docket/api"
	"docket/jsonval"
)

// rule is what a value keeps or breaks.
type rule interface {
	keeps(v api.Value) bool
}

// rules are those of a schema, in their order.
type rules []worded

type worded struct {
	word string
	rule rule
}

func (l rules) keeps(v api.Value) bool {
	for _, r := range l {
		if !r.rule.keeps(v) {
			return false
		}
	}
	return true
}

// typeNames: the types' names at the kinds that have them.
var typeNames = [...]string{api.Null: "null", api.False: "bool", api.True: "bool", api.Int: "int", api.Text: "string", api.List: "array", api.Object: "object"}

// types says of each kind whether it has one of the types.
type types [len(typeNames)]bool

// add tells whether there is a type of that name.
func (t *types) add(name string) bool {
	known := false
	for kind := range typeNames {
		if typeNames[kind] == name {
			t[kind], known = true, true
		}
	}
	return known
}

// keeps is false of a Value whose Kind is none: it has no type.
func (t types) keeps(v api.Value) bool { return v.Kind >= 0 && v.Kind < len(t) && t[v.Kind] }

type enum []api.Value

func (l enum) keeps(v api.Value) bool {
	return slices.ContainsFunc(l, func(x api.Value) bool { return jsonval.Equal(x, v) })
}

// required has its names in a map with numbers, since both they and an object's members may be thousands.
type required map[string]int

func (r required) keeps(v api.Value) bool {
	if v.Kind != api.Object {
		return true
	}
	found, missing := make([]bool, len(r)), len(r)
	for _, name := range members(v) {
		if n, asked := r[name]; asked && !found[n] {
			found[n] = true
			missing--
		}
	}
	return missing == 0
}

type additional struct {
	anything bool
	named    map[string]int
}

func (a additional) keeps(v api.Value) bool {
	if a.anything || v.Kind != api.Object {
		return true
	}
	for _, name := range members(v) {
		if _, there := a.named[name]; !there {
			return false
		}
	}
	return true
}

type anyOf []rules

func (l anyOf) keeps(v api.Value) bool {
	return slices.ContainsFunc(l, func(schema rules) bool { return schema.keeps(v) })
}

type allOf []rules

func (l allOf) keeps(v api.Value) bool {
	return !slices.ContainsFunc(l, func(schema rules) bool { return !schema.keeps(v) })
}

type not rules

func (n not) keeps(v api.Value) bool { return !rules(n).keeps(v) }

// members are an object's names, but those without an Item: a Value that is handed in need not be a value.
func members(v api.Value) []string { return v.Names[:min(len(v.Names), len(v.Items))] }
