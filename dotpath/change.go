package dotpath

import (
	"slices"

	"docket/api"
)

// turn is one part of a way down: the item of an object or a list at which the way goes on, or the one behind its last, which is yet to be laid.
type turn struct {
	from    api.Value
	segment string
	item    int
}

// down goes by the path to its end, or to the first item that is yet to be laid: there the way down ends, whatever the path has left.
func down(v api.Value, path []string) ([]turn, api.Errno) {
	var turns []turn
way:
	for _, segment := range path {
		i, there := place(v, segment)
		if there {
			turns = append(turns, turn{v, segment, i})
			v = v.Items[i]
			continue
		}
		_, number := Index(segment)
		length := len(bare(v).Items)
		switch {
		case v.Kind == api.Object, v.Kind == api.List && number && i == length:
			turns = append(turns, turn{v, segment, length})
			break way
		case v.Kind == api.List && number:
			return nil, api.ErrIndex
		default:
			return nil, api.ErrCross
		}
	}
	return turns, api.OK
}

// Set: P2.6.
func Set(v api.Value, path []string, x api.Value) (api.Value, api.Errno) {
	turns, e := down(v, path)
	if e != api.OK {
		return api.Value{}, e
	}
	return up(turns, within(path[len(turns):], x)), api.OK
}

// within is x in new objects of one member each.
func within(path []string, x api.Value) api.Value {
	for _, segment := range slices.Backward(path) {
		x = api.Value{Kind: api.Object, Names: []string{segment}, Items: []api.Value{x}}
	}
	return x
}

// up makes anew what the turns went through, with x at their end.
func up(turns []turn, x api.Value) api.Value {
	for _, t := range slices.Backward(turns) {
		x = t.with(x)
	}
	return x
}

// with is the object or list of the turn with x as that item.
func (t turn) with(x api.Value) api.Value {
	v := anew(t.from)
	if t.item < len(v.Items) {
		v.Items[t.item] = x
		return v
	}
	if v.Kind == api.Object {
		v.Names = append(v.Names, t.segment)
	}
	v.Items = append(v.Items, x)
	return v
}

// without keeps the place in a list: the items behind it are named by their numbers.
func (t turn) without() api.Value {
	v := anew(t.from)
	if v.Kind == api.List {
		v.Items[t.item] = api.Value{Kind: api.Null}
		return v
	}
	v.Names = slices.Delete(v.Names, t.item, t.item+1)
	v.Items = slices.Delete(v.Items, t.item, t.item+1)
	return v
}

// anew is an object or list in lists of its own, with room for one item more: what was handed in is not written, its spare room neither.
func anew(v api.Value) api.Value {
	v = bare(v)
	v.Items = copied(v.Items)
	if v.Kind == api.Object {
		v.Names = copied(v.Names)
	}
	return v
}

func copied[T any](list []T) []T {
	made := make([]T, len(list), len(list)+1)
	copy(made, list)
	return made
}

// Unset: P2.7.
func Unset(v api.Value, path []string) (api.Value, bool) {
	if _, there := Get(v, path); !there || len(path) == 0 {
		return v, false
	}
	turns, _ := down(v, path)
	last := len(turns) - 1
	return up(turns[:last], turns[last].without()), true
}
