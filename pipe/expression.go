package pipe

import (
	"strings"

	"docket/api"
	"docket/dotpath"
	"docket/jsonval"
)

// expression is what is said of a value d.
type expression interface {
	of(d api.Value) api.Value
}

type (
	// constant is the same of every value.
	constant struct{ value api.Value }
	// place is what stands at a path; at the empty one d itself.
	place struct{ path []string }
	list  struct{ items []expression }
	// object has as many names as items.
	object struct {
		names []string
		items []expression
	}
	// operation leaves it to its operator which operands are gone through.
	operation struct {
		does     operator
		operands []expression
	}
)

func (c constant) of(api.Value) api.Value { return c.value }

func (p place) of(d api.Value) api.Value {
	v, _ := dotpath.Get(d, p.path) // where nothing stands it is the zero Value, which is null
	return v
}

func (l list) of(d api.Value) api.Value { return jsonval.Listed(each(l.items, d)...) }

func (o object) of(d api.Value) api.Value { return jsonval.Named(o.names, each(o.items, d)...) }

func (o operation) of(d api.Value) api.Value { return o.does(o.operands, d) }

// each goes through all of them, from the left.
func each(l []expression, d api.Value) []api.Value {
	values := make([]api.Value, len(l))
	for i, x := range l {
		values[i] = x.of(d)
	}
	return values
}

// said is what comes of an expression at its end.
func said(x expression, d api.Value) api.Value {
	v := x.of(d)
	mustNotBeDeep(v)
	return v
}

// read is for a Value that may be none of chapter 1.
func read(e api.Value) expression {
	must(jsonval.Check(e))
	return treeOf(e)
}

func treeOf(e api.Value) expression {
	r := reader{}
	return r.expression(e)
}

// reader counts the nodes of one expression, from the left, each ahead of what stands in it.
type reader struct{ nodes int }

func (r *reader) expression(e api.Value) expression {
	if r.nodes == api.MaxExpr {
		giveUp(api.ErrExpr)
	}
	r.nodes++
	switch {
	case e.Kind == api.Text:
		return wordOf(e)
	case e.Kind == api.List:
		return list{r.all(e.Items)}
	case begins(e):
		return r.operation(e)
	case e.Kind == api.Object:
		return object{e.Names, r.all(e.Items)}
	}
	return constant{e}
}

func (r *reader) all(l []api.Value) []expression {
	var read []expression
	for _, e := range l {
		read = append(read, r.expression(e))
	}
	return read
}

func wordOf(e api.Value) expression {
	behind, isPlace := strings.CutPrefix(e.Text, "$")
	switch {
	case !isPlace:
		return constant{e}
	case behind == "":
		return place{}
	}
	path, why, _ := dotpath.Parse(behind)
	must(why)
	return place{path}
}

func (r *reader) operation(e api.Value) expression {
	if !isPair(e) {
		giveUp(api.ErrExpr)
	}
	name, item := e.Names[0], e.Items[0]
	if name == "$literal" {
		return constant{item}
	}
	n, known := needsOf(name)
	if !known || item.Kind != api.List || !n.suits(len(item.Items)) {
		giveUp(api.ErrExpr)
	}
	return operation{operatorOf(name, n.kind), r.all(item.Items)}
}

// begins tells of an object whose first name begins with $.
func begins(v api.Value) bool {
	return v.Kind == api.Object && len(v.Names) > 0 && strings.HasPrefix(v.Names[0], "$")
}

// isPair tells of an object of one member.
func isPair(v api.Value) bool { return v.Kind == api.Object && len(v.Names) == 1 }
