package update

import (
	"slices"
	"strings"

	"docket/api"
	"docket/dotpath"
	"docket/filter"
	"docket/jsonval"
)

// reader holds what it has read so far, and the paths of that, against which those of the next term are held.
type reader struct {
	verbs []verb
	terms []term
	paths []path
	meant meanings
}

func (r *reader) read(ops, filters api.Value) error {
	if e := jsonval.Check(ops); e != api.OK {
		return fault(e)
	}
	if e := jsonval.Check(filters); e != api.OK {
		return fault(e)
	}
	if err := r.operators(ops); err != nil {
		return err
	}
	return r.filters(filters)
}

func (r *reader) operators(ops api.Value) error {
	if !hasMembers(ops) {
		return fault(api.ErrUpdate)
	}
	for i, name := range ops.Names {
		number, there := numberOf(name)
		if !there {
			return fault(api.ErrVerb)
		}
		if err := r.given(r.verbs[number], ops.Items[i]); err != nil {
			return err
		}
	}
	return nil
}

func (r *reader) given(v verb, terms api.Value) error {
	if !hasMembers(terms) {
		return fault(api.ErrUpdate)
	}
	for i, name := range terms.Names {
		if err := r.term(v, name, terms.Items[i]); err != nil {
			return err
		}
	}
	return nil
}

func (r *reader) term(v verb, name string, operand api.Value) error {
	if len(r.terms) == api.MaxSteps {
		return fault(api.ErrSteps)
	}
	own, ok := readPath(name)
	if !ok {
		return fault(api.ErrPath)
	}
	if !v.takes(operand) {
		return fault(api.ErrGive)
	}
	t, err := v.term(own, operand)
	if err != nil {
		return err
	}
	for _, p := range pathsOf(t) {
		if slices.ContainsFunc(r.paths, p.clashes) {
			return fault(api.ErrClash)
		}
		r.paths = append(r.paths, p)
	}
	r.terms = append(r.terms, t)
	return nil
}

func (r *reader) filters(l api.Value) error {
	if l.Kind != api.Null && l.Kind != api.List || len(l.Items) > api.MaxSteps {
		return fault(api.ErrFilters)
	}
	for _, item := range l.Items {
		if err := r.filter(item); err != nil {
			return err
		}
	}
	for _, p := range r.paths {
		if slices.ContainsFunc(p.names(), func(name string) bool { return r.meant[name] == nil }) {
			return fault(api.ErrFilters)
		}
	}
	return nil
}

// filter need not ask whether a name is one: what stands in a part is.
func (r *reader) filter(x api.Value) error {
	if x.Kind != api.Object || len(x.Names) != 1 {
		return fault(api.ErrFilters)
	}
	name, place, dotted := strings.Cut(x.Names[0], ".")
	if dotted && !isPlace(place) || r.meant[name] != nil || !r.stands(name) {
		return fault(api.ErrFilters)
	}
	clause := "v" + strings.TrimPrefix(x.Names[0], name)
	f, e := filter.Parse(object(clause, x.Items[0]))
	r.meant[name] = f
	return failed(e)
}

func isPlace(text string) bool {
	_, e, _ := dotpath.Parse(text)
	return e == api.OK
}

// stands tells whether a part has the name.
func (r *reader) stands(name string) bool {
	return slices.ContainsFunc(r.paths, func(p path) bool { return slices.Contains(p.names(), name) })
}

func hasMembers(v api.Value) bool { return v.Kind == api.Object && len(v.Names) > 0 }

// begins tells whether v is an object whose first name is an operator's, if anything's.
func begins(v api.Value) bool { return hasMembers(v) && strings.HasPrefix(v.Names[0], "$") }

func object(name string, item api.Value) api.Value {
	return api.Value{Kind: api.Object, Names: []string{name}, Items: []api.Value{item}}
}
