package schema

import (
	"math"

	"docket/api"
	"docket/jsonval"
)

// makers are the rows of the table of 21.1.
func makers() map[string]maker {
	return map[string]maker{
		"type":       makeTypes,
		"enum":       makeEnum,
		"required":   makeRequired,
		"properties": makeProperties,
		"additional": makeAdditional,
		"items":      makeItems,
		"minItems":   makeBound[itemsOf](0, atLeast),
		"maxItems":   makeBound[itemsOf](0, atMost),
		"minLength":  makeBound[charactersOf](0, atLeast),
		"maxLength":  makeBound[charactersOf](0, atMost),
		"minimum":    makeBound[intOf](math.MinInt64, atLeast),
		"maximum":    makeBound[intOf](math.MinInt64, atMost),
		"divisible":  makeBound[intOf](1, divided),
		"anyOf":      makeAny,
		"allOf":      makeAll,
		"not":        makeNot,
	}
}

func makeTypes(_ *reader, g given) (rule, api.Errno) {
	names := []api.Value{g.value}
	if g.value.Kind == api.List {
		names = g.value.Items
	}
	var t types
	for _, name := range names {
		if name.Kind != api.Text || !t.add(name.Text) {
			return nil, api.ErrRule
		}
	}
	if len(names) == 0 {
		return nil, api.ErrRule
	}
	return t, api.OK
}

func makeEnum(_ *reader, g given) (rule, api.Errno) {
	if !several(g.value) {
		return nil, api.ErrRule
	}
	return enum(g.value.Items), api.OK
}

func makeRequired(_ *reader, g given) (rule, api.Errno) {
	if g.value.Kind != api.List {
		return nil, api.ErrRule
	}
	numbers := map[string]int{}
	for _, name := range g.value.Items {
		if name.Kind != api.Text {
			return nil, api.ErrRule
		}
		if _, had := numbers[name.Text]; !had {
			numbers[name.Text] = len(numbers)
		}
	}
	return required(numbers), api.OK
}

func makeProperties(r *reader, g given) (rule, api.Errno) {
	if g.value.Kind != api.Object {
		return nil, api.ErrRule
	}
	schemas, e := r.schemas(g.value.Items, g.depth)
	return properties{numbers: numbered(g.value.Names), schemas: schemas}, e
}

// makeAdditional takes the properties' names from the schema itself, as their rule may stand behind this one. If they are something else, that rule's turn tells it.
func makeAdditional(_ *reader, g given) (rule, api.Errno) {
	switch g.value.Kind {
	case api.True:
		return additional{anything: true}, api.OK
	case api.False:
		named, _ := jsonval.Has(g.beside, "properties")
		return additional{named: numbered(named.Names)}, api.OK
	}
	return nil, api.ErrRule
}

func makeItems(r *reader, g given) (rule, api.Errno) {
	each, e := r.schema(g.value, g.depth+1)
	return items(each), e
}

func makeAny(r *reader, g given) (rule, api.Errno) {
	if !several(g.value) {
		return nil, api.ErrRule
	}
	schemas, e := r.schemas(g.value.Items, g.depth)
	return anyOf(schemas), e
}

func makeAll(r *reader, g given) (rule, api.Errno) {
	if !several(g.value) {
		return nil, api.ErrRule
	}
	schemas, e := r.schemas(g.value.Items, g.depth)
	return allOf(schemas), e
}

func makeNot(r *reader, g given) (rule, api.Errno) {
	one, e := r.schema(g.value, g.depth+1)
	return not(one), e
}

// makeBound is for what is given an int of at least that.
func makeBound[C counted](least int64, suits func(n, limit int64) bool) maker {
	return func(_ *reader, g given) (rule, api.Errno) {
		if g.value.Kind != api.Int || g.value.Int < least {
			return nil, api.ErrRule
		}
		return bound[C]{limit: g.value.Int, suits: suits}, api.OK
	}
}

// several tells whether v is a list of at least one.
func several(v api.Value) bool { return v.Kind == api.List && len(v.Items) > 0 }

func numbered(names []string) map[string]int {
	numbers := map[string]int{}
	for i, name := range names {
		numbers[name] = i
	}
	return numbers
}
