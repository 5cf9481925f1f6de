package request

import (
	"docket/api"
	"docket/jsonval"
)

// part is a member of an object that is laid together.
type part struct {
	name string
	item api.Value
}

func object(parts ...part) api.Value {
	names, items := make([]string, len(parts)), make([]api.Value, len(parts))
	for i, p := range parts {
		names[i], items[i] = p.name, p.item
	}
	return api.Value{Kind: api.Object, Names: names, Items: items}
}

// Good: P16.4.
func Good(names []string, items ...api.Value) string {
	parts := []part{{"ok", jsonval.Flag(true)}}
	for i := range min(len(names), len(items)) {
		parts = append(parts, part{names[i], items[i]})
	}
	text, e := jsonval.Print(object(parts...))
	if e != api.OK {
		return Bad(e, noStep)
	}
	return text
}

// Bad: P16.5.
func Bad(e api.Errno, at int) string {
	parts := []part{{"ok", jsonval.Flag(false)}, {"error", jsonval.Word(Name(e))}}
	if at >= 0 {
		parts = append(parts, part{"at", jsonval.Of(int64(at))})
	}
	text, _ := jsonval.Print(object(parts...))
	return text
}
