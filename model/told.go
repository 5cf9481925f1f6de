package model

import (
	"docket/api"
	"docket/dotpath"
	"docket/filter"
	"docket/jsonval"
)

// matched are the documents of items that the request's Filter takes, as they stand.
func matched(r api.Request, items []api.Item) []api.Doc {
	f, _ := filter.Parse(r.Filter)
	var docs []api.Doc
	for _, x := range items {
		if f.Match(x.Value) {
			docs = append(docs, api.Doc{Id: x.Key, Version: x.Version, Value: x.Value})
		}
	}
	return docs
}

// told is a list of documents, each as it is told.
func told(docs []api.Doc) api.Value {
	var all []api.Value
	for _, d := range docs {
		all = append(all, jsonval.Named([]string{"id", "version", "value"}, jsonval.Word(d.Id), jsonval.Of(d.Version), d.Value))
	}
	return jsonval.Listed(all...)
}

func toldSpecs(specs []api.Spec) api.Value {
	var all []api.Value
	for _, s := range specs {
		all = append(all, jsonval.Named([]string{"name", "path", "unique"}, jsonval.Word(s.Name), jsonval.Word(s.Path), jsonval.Flag(s.Unique)))
	}
	return jsonval.Listed(all...)
}

func kindWord(kind int) string {
	switch kind {
	case api.ChangeInsert:
		return "insert"
	case api.ChangeUpdate:
		return "update"
	}
	return "delete"
}

func number(n int) api.Value { return jsonval.Of(int64(n)) }

func pathOf(text string) []string {
	path, _, _ := dotpath.Parse(text)
	return path
}
