package request

import (
	"slices"

	"docket/api"
	"docket/jsonval"
)

func read(v api.Value) (api.Request, error) {
	o, err := asked(v)
	if err != nil {
		return api.Request{}, err
	}
	return o.read(v)
}

func readStep(v api.Value) (api.Request, error) {
	o, err := asked(v)
	if err != nil {
		return api.Request{}, err
	}
	if o, err = o.asStep(); err != nil {
		return api.Request{}, err
	}
	return o.read(v)
}

// asked is the operation that v names.
func asked(v api.Value) (operation, error) {
	op, _ := jsonval.Has(v, "op")
	if op.Kind != api.Text {
		return operation{}, fault(api.ErrRequest)
	}
	list := operations()
	i := slices.IndexFunc(list, func(o operation) bool { return o.name == op.Text })
	if i < 0 {
		return operation{}, fault(api.ErrOp)
	}
	return list[i], nil
}

// asStep is the operation as a step has it: always with an id.
func (o operation) asStep() (operation, error) {
	switch o.number {
	case api.OpInsert, api.OpReplace, api.OpUpdate, api.OpDelete:
	default:
		return operation{}, fault(api.ErrOp)
	}
	has := slices.Clone(o.has)
	for i := range has {
		has[i].must = has[i].must || has[i].name == "id"
	}
	return operation{o.number, o.name, has}, nil
}

func (o operation) read(v api.Value) (api.Request, error) {
	if slices.ContainsFunc(v.Names, o.lacks) {
		return api.Request{}, fault(api.ErrMember)
	}
	if slices.ContainsFunc(o.has, func(m member) bool { return m.missing(v) }) {
		return api.Request{}, fault(api.ErrMissing)
	}
	d := draft{given: v, Request: blank(o.number)}
	for _, m := range o.has {
		item, there := jsonval.Has(v, m.name)
		if !there {
			continue
		}
		if err := m.lay(&d, item); err != nil {
			return api.Request{}, err
		}
	}
	return d.Request, nil
}

// lacks tells whether no request of the operation may have a member of that name.
func (o operation) lacks(name string) bool {
	return name != "op" && !slices.ContainsFunc(o.has, func(m member) bool { return m.name == name })
}

func (m member) missing(v api.Value) bool {
	_, there := jsonval.Has(v, m.name)
	return m.must && !there
}
