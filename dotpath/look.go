package dotpath

import (
	"iter"
	"slices"
	"strconv"

	"docket/api"
)

// Get: P2.4.
func Get(v api.Value, path []string) (api.Value, bool) {
	for _, segment := range path {
		i, there := place(v, segment)
		if !there {
			return api.Value{}, false
		}
		v = v.Items[i]
	}
	return v, true
}

// place is the number of the item that a segment names in v.
func place(v api.Value, segment string) (int, bool) {
	i, there := 0, false
	switch v.Kind {
	case api.Object:
		i = slices.Index(v.Names, segment)
		there = i >= 0
	case api.List:
		i, there = Index(segment)
	}
	return i, there && i < len(v.Items)
}

// All: P2.5.
func All(v api.Value, path []string) []api.Value {
	return gather(nil, v, path)
}

// gather puts what a query means by the path behind what was found so far.
func gather(found []api.Value, v api.Value, path []string) []api.Value {
	for n, segment := range path {
		i, there := place(v, segment)
		if !there {
			if spreads(v, segment) {
				found = gatherEach(found, v.Items, path[n:])
			}
			return found
		}
		v = v.Items[i]
	}
	return append(found, v)
}

// spreads tells whether the way goes on in each object of a list.
func spreads(v api.Value, segment string) bool {
	_, number := Index(segment)
	return v.Kind == api.List && !number
}

func gatherEach(found, items []api.Value, path []string) []api.Value {
	for _, item := range items {
		if item.Kind == api.Object {
			found = gather(found, item, path)
		}
	}
	return found
}

// Walk: P2.9.
func Walk(v api.Value) iter.Seq2[[]string, api.Value] {
	return func(yield func([]string, api.Value) bool) { walk(v, nil, yield) }
}

// walk answers false once it was left, so that those above it end too.
func walk(v api.Value, above []string, yield func([]string, api.Value) bool) bool {
	for segment, item := range parts(v) {
		path := append(above, segment)
		// Whoever is told a path may write into it: so it is not ours.
		if !yield(slices.Clone(path), item) || !walk(item, path, yield) {
			return false
		}
	}
	return true
}

// parts goes over the items of an object or a list, each with the segment that names it there.
func parts(v api.Value) iter.Seq2[string, api.Value] {
	return func(yield func(string, api.Value) bool) {
		v = bare(v)
		for i, item := range v.Items {
			segment := strconv.Itoa(i)
			if v.Kind == api.Object {
				segment = v.Names[i]
			}
			if !yield(segment, item) {
				return
			}
		}
	}
}

// bare is what the kind of v names of it: an object's members as far as both its lists go, a list's items, of all else no parts.
func bare(v api.Value) api.Value {
	switch v.Kind {
	case api.Object:
		n := min(len(v.Names), len(v.Items))
		return api.Value{Kind: api.Object, Names: v.Names[:n], Items: v.Items[:n]}
	case api.List:
		return api.Value{Kind: api.List, Items: v.Items}
	}
	return api.Value{Kind: v.Kind}
}
