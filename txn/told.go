package txn

import (
	"slices"

	"docket/api"
	"docket/jsonval"
	"docket/shape"
)

// words: what is told of an operation that was done, in this order; the rest of a row is empty. Rows are arrays, so that no answer is a piece of them.
var words = [...]struct {
	op   int
	told [4]string
}{
	{api.OpInsert, [4]string{"id", "version"}},
	{api.OpReplace, [4]string{"version", "changed"}},
	{api.OpUpdate, [4]string{"version", "changed", "fresh"}},
	{api.OpModify, [4]string{"version", "changed", "fresh", "value"}},
	{api.OpDelete, [4]string{"version"}},
}

// Told: P20.2.
func Told(r api.Request, o api.Outcome, stamp int64) ([]string, []api.Value) {
	if o.E != api.OK {
		return nil, nil
	}
	names := wordsOf(r.Op)
	var items []api.Value
	for _, name := range names {
		items = append(items, said(name, r, o, stamp))
	}
	return names, items
}

func wordsOf(op int) []string {
	for _, row := range words {
		if row.op == op {
			return slices.DeleteFunc(row.told[:], func(word string) bool { return word == "" })
		}
	}
	return nil
}

func said(word string, r api.Request, o api.Outcome, stamp int64) api.Value {
	switch word {
	case "id":
		return jsonval.Word(r.Id)
	case "version":
		return jsonval.Of(version(r, o, stamp))
	case "changed":
		return jsonval.Flag(o.Changed)
	case "fresh":
		return jsonval.Flag(o.Fresh)
	}
	return value(r, o)
}

// version of a document that is gone is the stamp at which it went.
func version(r api.Request, o api.Outcome, stamp int64) int64 {
	if r.Op == api.OpDelete {
		return stamp
	}
	return o.Now.Version
}

// value leans on the nil Fields that ParseFields answers where it refuses: these let everything through.
func value(r api.Request, o api.Outcome) api.Value {
	from, there := o.Was, o.There
	if r.New {
		from, there = o.Now, o.Is
	}
	if !there {
		return api.Value{}
	}
	f, _ := shape.ParseFields(r.Fields)
	return f.Apply(from.Value)
}

// Kind: P20.3.
func Kind(o api.Outcome) int {
	switch {
	case !o.Changed:
		return 0
	case !o.There:
		return api.ChangeInsert
	case !o.Is:
		return api.ChangeDelete
	}
	return api.ChangeUpdate
}
