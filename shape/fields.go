package shape

import (
	"slices"

	"docket/api"
	"docket/dotpath"
	"docket/jsonval"
)

// Fields are the parts of documents that are told.
type Fields struct {
	in  bool
	top *place
}

// place is where a path leads: what goes on from there, by the next segment; nothing, where a path ends. (No path ends where another goes on: they would clash.)
type place struct {
	rests map[string]*place
}

// ParseFields: P6.4.
func ParseFields(v api.Value) (*Fields, api.Errno) {
	if v.Kind != api.Object {
		return nil, api.ErrFields
	}
	if members(v) > api.MaxFields {
		return nil, api.ErrMany
	}
	var paths [][]string
	in := members(v) > 0 && isNumber(v.Items[0], 1)
	for i := range members(v) {
		path, e := field(v.Names[i], v.Items[i], in, paths)
		if e != api.OK {
			return nil, e
		}
		paths = append(paths, path)
	}
	return &Fields{in, treeOf(paths)}, api.OK
}

// field is the path of a member; in tells what the first one says, ahead are the paths of those ahead.
func field(name string, item api.Value, in bool, ahead [][]string) ([]string, api.Errno) {
	path, e, _ := dotpath.Parse(name)
	switch {
	case e != api.OK || slices.ContainsFunc(path, isIndex):
		return nil, api.ErrPath
	case !isNumber(item, 0) && !isNumber(item, 1):
		return nil, api.ErrFields
	case isNumber(item, 1) != in:
		return nil, api.ErrBoth
	case slices.ContainsFunc(ahead, func(other []string) bool { return dotpath.Clash(other, path) }):
		return nil, api.ErrClash
	}
	return path, api.OK
}

func isIndex(segment string) bool {
	_, number := dotpath.Index(segment)
	return number
}

// treeOf is the place from which all paths go on.
func treeOf(paths [][]string) *place {
	top := newPlace()
	for _, path := range paths {
		at := top
		for _, segment := range path {
			if at.rests[segment] == nil {
				at.rests[segment] = newPlace()
			}
			at = at.rests[segment]
		}
	}
	return top
}

func newPlace() *place { return &place{map[string]*place{}} }

// ends tells whether no path goes on from there.
func (p *place) ends() bool { return len(p.rests) == 0 }

// Apply: P6.5.
func (f *Fields) Apply(v api.Value) api.Value {
	if f == nil || f.top.ends() {
		return v
	}
	return f.told(f.top, v)
}

// told is what the paths that go on from p make of v.
func (f *Fields) told(p *place, v api.Value) api.Value {
	switch v.Kind {
	case api.Object:
		return f.object(p, v)
	case api.List:
		return f.list(p, v)
	}
	return v
}

func (f *Fields) object(p *place, v api.Value) api.Value {
	var names []string
	var items []api.Value
	for i := range members(v) {
		if item, kept := f.member(p, v.Names[i], v.Items[i]); kept {
			names, items = append(names, v.Names[i]), append(items, item)
		}
	}
	return jsonval.Named(names, items...)
}

// member is what is told of a member, and whether it is told at all.
func (f *Fields) member(p *place, name string, item api.Value) (api.Value, bool) {
	rest, named := p.rests[name]
	switch {
	case !named:
		return item, !f.in
	case rest.ends():
		return item, f.in
	}
	return f.part(rest, item)
}

func (f *Fields) list(p *place, v api.Value) api.Value {
	var items []api.Value
	for _, item := range v.Items {
		if x, kept := f.part(p, item); kept {
			items = append(items, x)
		}
	}
	return jsonval.Listed(items...)
}

// part is what is told of an item in which paths go on. One without parts has nothing that they let in, and nothing that they leave out.
func (f *Fields) part(p *place, item api.Value) (api.Value, bool) {
	hasParts := item.Kind == api.Object || item.Kind == api.List
	return f.told(p, item), hasParts || !f.in
}
