package filter

import (
	"strings"

	"docket/api"
	"docket/dotpath"
	"docket/jsonval"
)

// reader counts the terms of the whole while it reads its parts, from the left.
type reader struct {
	operators map[string]operator
	terms     int
}

func (r *reader) query(v api.Value, deep int) (every, api.Errno) {
	if v.Kind != api.Object {
		return nil, api.ErrFilter
	}
	if deep > api.MaxNested {
		return nil, api.ErrNested
	}
	var clauses every
	for i := range members(v) {
		clause, e := r.clause(v.Names[i], v.Items[i], deep)
		if e != api.OK {
			return nil, e
		}
		clauses = append(clauses, clause)
	}
	return clauses, api.OK
}

func (r *reader) clause(name string, item api.Value, deep int) (node, api.Errno) {
	switch {
	case !hasDollar(name):
		return r.place(name, item, deep)
	case !joinsQueries(name):
		return nil, api.ErrOperator
	}
	queries, e := r.queries(item, deep+1)
	switch name {
	case "$or":
		return some(queries), e
	case "$nor":
		return none(queries), e
	}
	return every(queries), e
}

func (r *reader) queries(l api.Value, deep int) ([]node, api.Errno) {
	if l.Kind != api.List || len(l.Items) == 0 {
		return nil, api.ErrOperand
	}
	var queries []node
	for _, item := range l.Items {
		q, e := r.query(item, deep)
		if e != api.OK {
			return nil, e
		}
		queries = append(queries, q)
	}
	return queries, api.OK
}

func (r *reader) place(text string, item api.Value, deep int) (node, api.Errno) {
	path, e, _ := dotpath.Parse(text)
	if e != api.OK {
		return nil, e
	}
	if !hasDollar(firstName(item)) {
		item = jsonval.Named([]string{"$eq"}, item)
	}
	t, e := r.test(item, deep)
	return place{text: text, path: path, test: t}, e
}

func (r *reader) test(v api.Value, deep int) (test, api.Errno) {
	if v.Kind != api.Object || members(v) == 0 {
		return nil, api.ErrFilter
	}
	if deep > api.MaxNested {
		return nil, api.ErrNested
	}
	var terms test
	for i := range members(v) {
		x, e := r.term(v.Names[i], v.Items[i], deep)
		if e != api.OK {
			return nil, e
		}
		terms = append(terms, x)
	}
	return terms, api.OK
}

func (r *reader) term(name string, item api.Value, deep int) (term, api.Errno) {
	if r.terms == api.MaxTerms {
		return term{}, api.ErrMany
	}
	r.terms++
	o, there := r.operators[name]
	if !there {
		return term{}, api.ErrOperator
	}
	holds, e := o.read(r, item, deep)
	return term{need: o.need, takes: item, holds: holds}, e
}

// hasDollar tells whether a name is of an operator, if of anything, and not of a place.
func hasDollar(name string) bool { return strings.HasPrefix(name, "$") }

// joinsQueries tells whether a clause of that name is one of several queries.
func joinsQueries(name string) bool { return name == "$and" || name == "$or" || name == "$nor" }

// firstName is empty where v has none: an empty name begins no test either.
func firstName(v api.Value) string {
	if v.Kind != api.Object || members(v) == 0 {
		return ""
	}
	return v.Names[0]
}

// members leaves out a Name without an Item, and an Item without a Name: what is read need not be a value.
func members(v api.Value) int { return min(len(v.Names), len(v.Items)) }
