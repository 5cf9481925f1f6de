package pipe

import (
	"docket/api"
	"docket/dotpath"
	"docket/filter"
	"docket/jsonval"
	"docket/shape"
)

// stage is handed a list that nobody else has, and so may answer a part of it.
type stage func(l []api.Value) []api.Value

func stageOf(name string, spec api.Value) stage {
	switch name {
	case "$match":
		return match(spec)
	case "$sort":
		return sorted(spec)
	case "$skip":
		return skip(spec)
	case "$limit":
		return limit(spec)
	case "$project":
		return project(spec)
	case "$set":
		return set(spec)
	case "$unwind":
		return unwind(spec)
	case "$group":
		return grouped(spec)
	case "$count":
		return count(spec)
	}
	panic(fault(api.ErrStage))
}

func match(spec api.Value) stage {
	f, e := filter.Parse(spec)
	must(e)
	return func(l []api.Value) []api.Value {
		var made []api.Value
		for _, v := range l {
			if f.Match(v) {
				made = append(made, v)
			}
		}
		return made
	}
}

func sorted(spec api.Value) stage {
	s, e := shape.ParseSort(spec)
	must(e)
	return func(l []api.Value) []api.Value {
		docs := make([]api.Doc, len(l)) // all with one Id, so that it has no part in the order
		for i, v := range l {
			docs[i].Value = v
		}
		made := make([]api.Value, len(l))
		for i, d := range s.Order(docs) {
			made[i] = d.Value
		}
		return made
	}
}

func skip(spec api.Value) stage {
	n := numberOf(spec, 0)
	return func(l []api.Value) []api.Value {
		from, to := shape.Window(len(l), n, 0)
		return l[from:to]
	}
}

func limit(spec api.Value) stage {
	n := numberOf(spec, 1)
	return func(l []api.Value) []api.Value {
		from, to := shape.Window(len(l), 0, n)
		return l[from:to]
	}
}

func numberOf(spec api.Value, least int64) int64 {
	if spec.Kind != api.Int || spec.Int < least {
		giveUp(api.ErrSpec)
	}
	return spec.Int
}

func project(spec api.Value) stage {
	f, e := shape.ParseFields(spec)
	must(e)
	return ofEach(f.Apply)
}

// ofEach is for a stage that makes one value of each.
func ofEach(makes func(v api.Value) api.Value) stage {
	return func(l []api.Value) []api.Value {
		made := make([]api.Value, len(l))
		for i, v := range l {
			made[i] = makes(v)
		}
		return made
	}
}

// laying is a member of $set: where something is laid, and what.
type laying struct {
	path []string
	says expression
}

func set(spec api.Value) stage {
	all := layingsOf(spec)
	return ofEach(func(v api.Value) api.Value {
		made := v
		for _, l := range all {
			var e api.Errno
			made, e = dotpath.Set(made, l.path, said(l.says, v))
			must(e)
		}
		mustNotBeDeep(made)
		return made
	})
}

func layingsOf(spec api.Value) []laying {
	if spec.Kind != api.Object || len(spec.Names) == 0 {
		giveUp(api.ErrSpec)
	}
	paths := pathsOf(spec.Names)
	clash, clashes := dotpath.Clashes(paths)
	var all []laying
	for i, e := range spec.Items {
		switch {
		case i == len(paths):
			giveUp(api.ErrPath)
		case clashes && i == clash:
			giveUp(api.ErrClash)
		}
		all = append(all, laying{paths[i], treeOf(e)})
	}
	return all
}

// pathsOf ends ahead of the first text that is no path's.
func pathsOf(texts []string) [][]string {
	var paths [][]string
	for _, text := range texts {
		path, e, _ := dotpath.Parse(text)
		if e != api.OK {
			return paths
		}
		paths = append(paths, path)
	}
	return paths
}

func unwind(spec api.Value) stage {
	if spec.Kind != api.Text {
		giveUp(api.ErrSpec)
	}
	path, e, _ := dotpath.Parse(spec.Text)
	must(e)
	return func(l []api.Value) []api.Value {
		var made []api.Value
		for _, v := range l {
			items := unwoundAt(v, path)
			mustHaveRoom(len(made) + len(items))
			for _, item := range items {
				w, e := dotpath.Set(v, path, item)
				must(e)
				made = append(made, w)
			}
		}
		return made
	}
}

// unwoundAt are the items that come in the place of what stands there: what is no list comes in its own.
func unwoundAt(v api.Value, path []string) []api.Value {
	x, there := dotpath.Get(v, path)
	switch {
	case !there || x.Kind == api.Null:
		return nil
	case x.Kind == api.List:
		return x.Items
	}
	return []api.Value{x}
}

func count(spec api.Value) stage {
	path, e, _ := dotpath.Parse(spec.Text)
	if spec.Kind != api.Text || e != api.OK || len(path) != 1 {
		giveUp(api.ErrSpec)
	}
	return func(l []api.Value) []api.Value {
		return []api.Value{jsonval.Named(path, jsonval.Of(int64(len(l))))}
	}
}
