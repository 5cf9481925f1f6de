package model

import (
	"docket/api"
	"docket/catalog"
	"docket/filter"
	"docket/jsonval"
	"docket/pipe"
	"docket/request"
	"docket/shape"
	"docket/watch"
)

// root is what a read is told of.
type root struct {
	cat   *catalog.Catalog
	log   *watch.Log
	stamp int64
}

// readers are the operations that read, each with what it tells of a root and the documents that it wanted there.
func readers() map[int]func(t root, r api.Request, items []api.Item) string {
	return map[int]func(t root, r api.Request, items []api.Item) string{
		api.OpGet:       root.get,
		api.OpScan:      root.scan,
		api.OpCount:     root.count,
		api.OpDistinct:  root.distinct,
		api.OpAggregate: root.aggregate,
		api.OpExplain:   root.explain,
		api.OpChanges:   root.changes,
		api.OpStat:      root.stat,
	}
}

// readsOne is whether an operation reads one collection, which must be there.
func readsOne(op int) bool { return op != api.OpChanges && op != api.OpStat }

// stamped is the reply of a stamp, and one thing more.
func (t root) stamped(name string, v api.Value) string {
	return request.Good([]string{"stamp", name}, jsonval.Of(t.stamp), v)
}

func (root) get(r api.Request, items []api.Item) string {
	if len(items) == 0 {
		return request.Bad(api.ErrNone, -1)
	}
	f, _ := shape.ParseFields(r.Fields)
	x := items[0]
	return request.Good([]string{"version", "value"}, jsonval.Of(x.Version), f.Apply(x.Value))
}

func (t root) scan(r api.Request, items []api.Item) string {
	s, _ := shape.ParseSort(r.Sort)
	f, _ := shape.ParseFields(r.Fields)
	docs := s.Order(matched(r, items))
	from, to := shape.Window(len(docs), r.Skip, r.Limit)
	docs = docs[from:to]
	for i, d := range docs {
		docs[i].Value = f.Apply(d.Value)
	}
	return t.stamped("docs", told(docs))
}

func (t root) count(r api.Request, items []api.Item) string {
	return t.stamped("count", number(len(matched(r, items))))
}

func (t root) distinct(r api.Request, items []api.Item) string {
	return t.stamped("values", jsonval.Listed(shape.Distinct(matched(r, items), pathOf(r.Path))...))
}

func (t root) aggregate(r api.Request, items []api.Item) string {
	stages, _, _ := pipe.Parse(r.Pipe)
	var values []api.Value
	for _, x := range items {
		values = append(values, x.Value)
	}
	made, e, at := stages.Run(values)
	if e != api.OK {
		return request.Bad(e, at)
	}
	return t.stamped("values", jsonval.Listed(made...))
}

func (t root) explain(r api.Request, items []api.Item) string {
	f, _ := filter.Parse(r.Filter)
	index := api.Value{}
	if _, name, chosen := t.cat.Choose(r.In, f.Needs()); chosen {
		index = jsonval.Word(name)
	}
	return request.Good([]string{"stamp", "index", "looked", "matched"},
		jsonval.Of(t.stamp), index, number(len(items)), number(len(matched(r, items))))
}

func (t root) changes(r api.Request, _ []api.Item) string {
	l, next, e := t.log.After(r.After, r.Limit, r.In)
	if e != api.OK {
		return request.Bad(e, -1)
	}
	var all []api.Value
	for _, x := range l {
		all = append(all, jsonval.Named([]string{"stamp", "in", "id", "kind"},
			jsonval.Of(x.Stamp), jsonval.Word(x.In), jsonval.Word(x.Id), jsonval.Word(kindWord(x.Kind))))
	}
	return request.Good([]string{"stamp", "changes", "next"}, jsonval.Of(t.stamp), jsonval.Listed(all...), jsonval.Of(next))
}

func (t root) stat(api.Request, []api.Item) string {
	docs := 0
	var all []api.Value
	for _, name := range t.cat.Names() {
		k, _ := t.cat.Coll(name)
		docs += k.Count
		all = append(all, jsonval.Named([]string{"in", "count", "most", "indexes"},
			jsonval.Word(k.Name), number(k.Count), number(k.Most), toldSpecs(k.Specs)))
	}
	return request.Good([]string{"stamp", "docs", "collections"}, jsonval.Of(t.stamp), number(docs), jsonval.Listed(all...))
}
