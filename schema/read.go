package schema

import "docket/api"

// reader counts the rules of the whole while it makes them, from the left.
type reader struct {
	makers map[string]maker
	count  int
}

// maker makes the rule of a word.
type maker func(r *reader, g given) (rule, api.Errno)

// given is what a word is given, with the schema in which it stands, and how deep that is.
type given struct {
	value  api.Value
	beside api.Value
	depth  int
}

func (r *reader) schema(v api.Value, depth int) (rules, api.Errno) {
	if v.Kind != api.Object {
		return nil, api.ErrRule
	}
	if depth > api.MaxSchemas {
		return nil, api.ErrRules
	}
	var l rules
	for i, word := range v.Names {
		one, e := r.rule(word, given{value: v.Items[i], beside: v, depth: depth})
		if e != api.OK {
			return nil, e
		}
		l = append(l, worded{word: word, rule: one})
	}
	return l, api.OK
}

// rule counts ahead of all else: what stands in a rule has later numbers, and one that is too many is not looked at.
func (r *reader) rule(word string, g given) (rule, api.Errno) {
	if r.count == api.MaxRules {
		return nil, api.ErrRules
	}
	r.count++
	makes, there := r.makers[word]
	if !there {
		return nil, api.ErrRule
	}
	return makes(r, g)
}

// schemas are those that stand in a rule of a schema that is so deep.
func (r *reader) schemas(values []api.Value, depth int) ([]rules, api.Errno) {
	var l []rules
	for _, v := range values {
		one, e := r.schema(v, depth+1)
		if e != api.OK {
			return nil, e
		}
		l = append(l, one)
	}
	return l, api.OK
}
