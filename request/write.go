package request

import (
	"slices"

	"docket/api"
	"docket/jsonval"
)

// whole is the object that says r, its steps too. (A step's own steps, which none has, are not said: so it is read as another request.)
func whole(r api.Request) api.Value {
	var steps []api.Value
	for _, step := range r.Steps {
		steps = append(steps, said(step))
	}
	return said(r, steps...)
}

// said is the object that says r, of steps that are said already. Where there is no such operation it is null, which is read as no request.
func said(r api.Request, steps ...api.Value) api.Value {
	list := operations()
	i := slices.IndexFunc(list, func(o operation) bool { return o.number == r.Op })
	if i < 0 {
		return api.Value{}
	}
	parts := []part{{"op", jsonval.Word(list[i].name)}}
	is, absent := members(r, steps...), members(blank(r.Op))
	for _, m := range list[i].has {
		item, _ := jsonval.Has(is, m.name)
		without, _ := jsonval.Has(absent, m.name)
		if m.must || !jsonval.Equal(item, without) {
			parts = append(parts, part{m.name, item})
		}
	}
	return object(parts...)
}

// members is an object of all members that a request may have, as they stand in r, but for the steps.
func members(r api.Request, steps ...api.Value) api.Value {
	return object(
		part{"in", jsonval.Word(r.In)},
		part{"id", jsonval.Word(r.Id)},
		part{"value", r.Value},
		part{"version", jsonval.Of(r.Version)},
		part{"ops", r.Ops},
		part{"filters", r.Filters},
		part{"upsert", jsonval.Flag(r.Upsert)},
		part{"new", jsonval.Flag(r.New)},
		part{"fields", r.Fields},
		part{"filter", r.Filter},
		part{"sort", r.Sort},
		part{"skip", jsonval.Of(r.Skip)},
		part{"limit", jsonval.Of(r.Limit)},
		part{"path", jsonval.Word(r.Path)},
		part{"pipe", r.Pipe},
		part{"after", jsonval.Of(r.After)},
		part{"steps", jsonval.Listed(steps...)},
		part{"mode", modeWord(r.Mode)},
		part{"batch", jsonval.Of(r.Batch)},
		part{"cursor", jsonval.Of(r.Cursor)},
		part{"most", jsonval.Of(r.Most)},
		part{"schema", r.Schema},
		part{"name", jsonval.Word(r.Name)},
		part{"unique", jsonval.Flag(r.Unique)},
	)
}

// same holds two Requests against each other, as deep as the first one goes.
func same(a, b api.Request) bool {
	return a.Op == b.Op && jsonval.Equal(members(a), members(b)) && slices.EqualFunc(a.Steps, b.Steps, same)
}

// modes are the words of the modes, by their numbers.
func modes() []string {
	return []string{api.ModeAll: "all", api.ModeStop: "stop", api.ModeEach: "each"}
}

// modeWord is null where there is no such mode, as none is that is read.
func modeWord(mode int) api.Value {
	if mode < 0 || mode >= len(modes()) {
		return api.Value{}
	}
	return jsonval.Word(modes()[mode])
}
