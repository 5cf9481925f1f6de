// Package jsonval is layer 1: see shared/doc/01-jsonval.md.
package jsonval

import (
	"slices"
	"strings"

	"docket/api"
)

// Equal: P1.6.
func Equal(a, b api.Value) bool {
	return a.Kind == b.Kind && a.Int == b.Int && a.Text == b.Text &&
		slices.Equal(a.Names, b.Names) && slices.EqualFunc(a.Items, b.Items, Equal)
}

// Copy: P1.6.
func Copy(v api.Value) api.Value {
	c := api.Value{Kind: v.Kind, Int: v.Int, Text: strings.Clone(v.Text)}
	for _, name := range v.Names {
		c.Names = append(c.Names, strings.Clone(name))
	}
	for _, item := range v.Items {
		c.Items = append(c.Items, Copy(item))
	}
	return c
}

// Depth: P1.5.
func Depth(v api.Value) int {
	deepest := 0
	for _, item := range v.Items {
		deepest = max(deepest, 1+Depth(item))
	}
	return deepest
}

// Has: P1.7.
func Has(v api.Value, name string) (api.Value, bool) {
	if v.Kind != api.Object {
		return api.Value{}, false
	}
	i := slices.Index(v.Names, name)
	if i < 0 || i >= len(v.Items) {
		return api.Value{}, false
	}
	return v.Items[i], true
}

// Of: P1.8.
func Of(x int64) api.Value { return api.Value{Kind: api.Int, Int: x} }

// Word: P1.8.
func Word(s string) api.Value { return api.Value{Kind: api.Text, Text: s} }

// Flag: P1.8.
func Flag(b bool) api.Value {
	if b {
		return api.Value{Kind: api.True}
	}
	return api.Value{Kind: api.False}
}

// Listed: P1.8.
func Listed(items ...api.Value) api.Value {
	return api.Value{Kind: api.List, Items: slices.Clone(items)}
}

// Named: P1.8.
func Named(names []string, items ...api.Value) api.Value {
	return api.Value{Kind: api.Object, Names: slices.Clone(names), Items: slices.Clone(items)}
}
