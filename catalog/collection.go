package catalog

import (
	"slices"

	"docket/api"
	"docket/index"
	"docket/schema"
)

// collection is what is told of one, but for its Specs, which its indexes have; and what its documents are held against. The calls that change it are for a copy that nobody else has yet; with an error they may leave it half changed.
type collection struct {
	api.Coll
	rules   *schema.Schema // nil, if it has none
	indexes []*index.Index // in the order in which they were made
}

// created is a collection without documents and indexes; a most of 0 stands for the greatest.
func created(name string, most int, rules api.Value) (*collection, api.Errno) {
	k := &collection{Coll: api.Coll{Name: name, Most: most}}
	if most == 0 {
		k.Most = api.MaxCapacity
	}
	if rules.Kind == api.Null {
		return k, api.OK
	}
	read, e := schema.Parse(rules)
	if e != api.OK {
		return nil, e
	}
	k.Schema, k.rules = rules, read
	return k, api.OK
}

// told is what it is, in a list of Specs of its own.
func (k *collection) told() api.Coll {
	all := k.Coll
	for _, x := range k.indexes {
		all.Specs = append(all.Specs, x.Spec())
	}
	return all
}

// place is that of the index of a name, or -1.
func (k *collection) place(name string) int {
	return slices.IndexFunc(k.indexes, func(x *index.Index) bool { return x.Spec().Name == name })
}

func (k *collection) addIndex(s api.Spec, items []api.Item) api.Errno {
	x, e := index.New(s)
	switch {
	case e != api.OK:
		return e
	case k.place(s.Name) >= 0:
		return api.ErrThere
	case len(k.indexes) == api.MaxIndexes:
		return api.ErrFull
	}
	x, _, e = x.Change(nil, items)
	if e != api.OK {
		return e
	}
	k.indexes = append(slices.Clone(k.indexes), x)
	return api.OK
}

func (k *collection) dropIndex(name string) api.Errno {
	at := k.place(name)
	if at < 0 {
		return api.ErrNone
	}
	k.indexes = slices.Concat(k.indexes[:at], k.indexes[at+1:])
	return api.OK
}

// commit asks nothing of a count that does not grow: that was not above the most ahead of it either.
func (k *collection) commit(was, now []api.Item) api.Errno {
	for _, x := range now {
		if e := k.rules.Check(x.Value); e != api.OK {
			return e
		}
	}
	k.Count += len(now) - len(was)
	if k.Count > k.Most {
		return api.ErrFull
	}
	return k.changeIndexes(was, now)
}

func (k *collection) changeIndexes(was, now []api.Item) api.Errno {
	var indexes []*index.Index
	for _, x := range k.indexes {
		y, _, e := x.Change(was, now)
		if e != api.OK {
			return e
		}
		indexes = append(indexes, y)
	}
	k.indexes = indexes
	return api.OK
}
