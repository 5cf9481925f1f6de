package filter

import (
	"slices"

	"docket/api"
	"docket/dotpath"
)

// node is a part of a query; its types are those below and no others.
type node interface{ node() }

type (
	// every is a query, of its clauses, and $and, of its queries.
	every []node
	// some is $or.
	some []node
	// none is $nor.
	none []node
	// place is a path, by its text too, since Needs tells that, with its test.
	place struct {
		text string
		path []string
		test test
	}
)

func (every) node() {}
func (some) node()  {}
func (none) node()  {}
func (place) node() {}

// test is the operators of a test in their order.
type test []term

// term is an operator with what it takes; need is its number among those of api.Need, and 0 if it is none of them.
type term struct {
	need  int
	takes api.Value
	holds condition
}

// condition says whether something holds of the values of a path.
type condition func(values []api.Value) bool

func (t test) holds(values []api.Value) bool {
	for _, x := range t {
		if !x.holds(values) {
			return false
		}
	}
	return true
}

func matches(n node, d api.Value) bool {
	took := func(part node) bool { return matches(part, d) }
	missed := func(part node) bool { return !matches(part, d) }
	answer := false
	switch n := n.(type) {
	case every:
		answer = !slices.ContainsFunc(n, missed)
	case some:
		answer = slices.ContainsFunc(n, took)
	case none:
		answer = !slices.ContainsFunc(n, took)
	case place:
		answer = n.test.holds(dotpath.All(d, n.path))
	}
	return answer
}

// needs passes $or and $nor by: a document that matches need not meet what stands in them.
func needs(found []api.Need, n node) []api.Need {
	switch n := n.(type) {
	case every:
		for _, part := range n {
			found = needs(found, part)
		}
	case place:
		for _, x := range n.test {
			if x.need != 0 {
				found = append(found, api.Need{Path: n.text, Op: x.need, Value: x.takes})
			}
		}
	}
	return found
}
