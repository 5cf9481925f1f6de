package jsonval

import (
	"unicode/utf8"

	"docket/api"
)

// nameSet holds the names that an object has had: a map, as an object may have thousands of members.
type nameSet map[string]struct{}

// add tells whether the name is new.
func (n nameSet) add(name string) bool {
	if _, had := n[name]; had {
		return false
	}
	n[name] = struct{}{}
	return true
}

// Check: P1.3.
func Check(v api.Value) api.Errno { return checkAt(v, 0) }

func checkAt(v api.Value, depth int) api.Errno {
	if e := checkAlone(v, depth); e != api.OK {
		return e
	}
	if v.Kind == api.Object {
		return checkMembers(v, depth)
	}
	for _, item := range v.Items {
		if e := checkAt(item, depth+1); e != api.OK {
			return e
		}
	}
	return api.OK
}

func checkMembers(v api.Value, depth int) api.Errno {
	had := make(nameSet, len(v.Names))
	for i, name := range v.Names {
		if !utf8.ValidString(name) {
			return api.ErrValue
		}
		if !had.add(name) {
			return api.ErrName
		}
		if e := checkAt(v.Items[i], depth+1); e != api.OK {
			return e
		}
	}
	return api.OK
}

// checkAlone leaves out what stands in v.
func checkAlone(v api.Value, depth int) api.Errno {
	switch {
	case depth > deepest(v.Kind):
		return api.ErrDepth
	case v.Kind < api.Null || v.Kind > api.Object:
		return api.ErrValue
	case !keepsToKind(v):
		return api.ErrValue
	case !utf8.ValidString(v.Text):
		return api.ErrValue
	case v.Kind == api.Object && len(v.Names) != len(v.Items):
		return api.ErrValue
	}
	return api.OK
}

// deepest leaves the last depth to what has nothing in it.
func deepest(kind int) int {
	if isNest(kind) {
		return api.MaxDepth - 1
	}
	return api.MaxDepth
}

func isNest(kind int) bool { return kind == api.List || kind == api.Object }

func keepsToKind(v api.Value) bool {
	return (v.Int == 0 || v.Kind == api.Int) &&
		(v.Text == "" || v.Kind == api.Text) &&
		(len(v.Names) == 0 || v.Kind == api.Object) &&
		(len(v.Items) == 0 || isNest(v.Kind))
}
