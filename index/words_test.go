package index_test

import (
	"slices"
	"strings"

	"docket/api"
	"docket/dotpath"
	"docket/ident"
	"docket/jsonval"
	"docket/order"
)

// The chapter's words, written plainly: what the package answers is held against what they say.

type pair struct {
	value api.Value
	key   string
}

// newByWords is P17.1.
func newByWords(s api.Spec) api.Errno {
	if !ident.Name(s.Name) {
		return api.ErrIndexed
	}
	if _, e, _ := dotpath.Parse(s.Path); e != api.OK {
		return api.ErrPath
	}
	return api.OK
}

// entriesByWords are those of an item, each put ahead of the first that is behind it.
func entriesByWords(path string, item api.Item) []pair {
	var l []pair
	add := func(v api.Value) {
		at := len(l)
		for i, p := range l {
			if jsonval.Equal(p.value, v) {
				return
			}
			if at == len(l) && order.Compare(p.value, v) > 0 {
				at = i
			}
		}
		l = slices.Insert(l, at, pair{v, item.Key})
	}
	for _, v := range dotpath.All(item.Value, strings.Split(path, ".")) {
		add(v)
		for _, inner := range v.Items {
			if v.Kind == api.List {
				add(inner)
			}
		}
	}
	return l
}

func withoutKey(l []pair, key string) []pair {
	return slices.DeleteFunc(slices.Clone(l), func(p pair) bool { return p.key == key })
}

// changeByWords is P17.2, of entries in any order.
func changeByWords(s api.Spec, l []pair, was, now []api.Item) ([]pair, string, api.Errno) {
	for _, item := range was {
		l = withoutKey(l, item.Key)
	}
	for _, item := range now {
		l = withoutKey(l, item.Key)
		own := entriesByWords(s.Path, item)
		for _, p := range own {
			var others []string
			for _, other := range l {
				if jsonval.Equal(other.value, p.value) {
					others = append(others, other.key)
				}
			}
			if s.Unique && len(others) > 0 {
				return nil, slices.Min(others), api.ErrUnique
			}
		}
		l = append(l, own...)
	}
	return l, "", api.OK
}

// toldByWords is what Each tells: P17.4.
func toldByWords(l []pair) string {
	l = slices.Clone(l)
	slices.SortFunc(l, func(a, b pair) int {
		if c := order.Compare(a.value, b.value); c != 0 {
			return c
		}
		return strings.Compare(a.key, b.key)
	})
	var all []string
	for _, p := range l {
		all = append(all, full(p.value)+" "+p.key)
	}
	return strings.Join(all, ", ")
}

func classOf(v api.Value) int {
	if v.Kind == api.False {
		return api.True
	}
	return v.Kind
}

// meets is P17.3, of one entry's value.
func meets(w api.Value, op int, v api.Value) bool {
	c, one := order.Compare(w, v), classOf(w) == classOf(v)
	switch op {
	case 1:
		return jsonval.Equal(w, v)
	case 2:
		return one && c > 0
	case 3:
		return one && c >= 0
	case 4:
		return one && c < 0
	case 5:
		return one && c <= 0
	case 6:
		return v.Kind == api.List && slices.ContainsFunc(v.Items, func(x api.Value) bool { return jsonval.Equal(w, x) })
	}
	return false
}

// idsByWords is P17.3.
func idsByWords(l []pair, op int, v api.Value) []string {
	var keys []string
	if jsonval.Check(v) != api.OK {
		return nil
	}
	for _, p := range l {
		if meets(p.value, op, v) && !slices.Contains(keys, p.key) {
			keys = append(keys, p.key)
		}
	}
	slices.Sort(keys)
	return keys
}

// servesByWords is P17.5.
func servesByWords(s api.Spec, n api.Need) bool {
	if n.Path != s.Path || n.Op < 1 || n.Op > 6 || jsonval.Check(n.Value) != api.OK {
		return false
	}
	if n.Op == 1 && n.Value.Kind == api.Null {
		return false
	}
	if n.Op == 6 && n.Value.Kind != api.List {
		return false
	}
	for _, item := range n.Value.Items {
		if n.Op == 6 && item.Kind == api.Null {
			return false
		}
	}
	return true
}

// chooseByWords is P17.6; a nil Spec is of a nil index.
func chooseByWords(l []*api.Spec, needs []api.Need) (int, int, bool) {
	var found [][3]int
	for k, n := range needs {
		for i, s := range l {
			if s != nil && servesByWords(*s, n) {
				found = append(found, [3]int{map[int]int{1: -2, 6: -1}[n.Op], k, i})
			}
		}
	}
	if len(found) == 0 {
		return 0, 0, false
	}
	first := slices.MinFunc(found, func(a, b [3]int) int { return slices.Compare(a[:], b[:]) })
	return first[2], first[1], true
}
