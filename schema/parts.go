package schema

import (
	"cmp"
	"slices"
	"strconv"

	"docket/api"
)

// properties are schemas in their order, with their numbers by the names of the members that they are for.
type properties struct {
	numbers map[string]int
	schemas []rules
}

func (p properties) keeps(v api.Value) bool {
	for _, m := range p.named(v) {
		if !p.schemas[m.property].keeps(v.Items[m.member]) {
			return false
		}
	}
	return true
}

func (p properties) seek(v api.Value, at *place) {
	found := p.named(v)
	slices.SortStableFunc(found, func(a, b match) int { return cmp.Compare(a.property, b.property) })
	for _, m := range found {
		p.schemas[m.property].seek(v.Items[m.member], &place{up: at, step: v.Names[m.member]})
	}
}

// match is the numbers of a property and a member of one name.
type match struct {
	property int
	member   int
}

// named are the members that have a property, in the members' order; each one, also where several have one name.
func (p properties) named(v api.Value) []match {
	if v.Kind != api.Object {
		return nil
	}
	var found []match
	for i, name := range members(v) {
		if n, there := p.numbers[name]; there {
			found = append(found, match{property: n, member: i})
		}
	}
	return found
}

// items is the schema of each item of a list.
type items rules

func (each items) keeps(v api.Value) bool {
	return v.Kind != api.List || !slices.ContainsFunc(v.Items, func(item api.Value) bool { return !rules(each).keeps(item) })
}

func (each items) seek(v api.Value, at *place) {
	if v.Kind != api.List {
		return
	}
	for i, item := range v.Items {
		rules(each).seek(item, &place{up: at, step: strconv.Itoa(i)})
	}
}
