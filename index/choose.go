package index

import (
	"slices"

	"docket/api"
	"docket/jsonval"
)

// Serves: P17.5.
func (x *Index) Serves(n api.Need) bool {
	if x == nil || n.Path != x.spec.Path || jsonval.Check(n.Value) != api.OK {
		return false
	}
	switch n.Op {
	case api.NeedEq:
		return !isNull(n.Value)
	case api.NeedIn:
		return n.Value.Kind == api.List && !slices.ContainsFunc(n.Value.Items, isNull)
	case api.NeedGt, api.NeedGte, api.NeedLt, api.NeedLte:
		return true
	}
	return false
}

func isNull(v api.Value) bool { return v.Kind == api.Null }

// Choose: P17.6.
func Choose(l []*Index, needs []api.Need) (int, int, bool) {
	for wanted := range ranks {
		for k, n := range needs {
			if rank(n.Op) != wanted {
				continue
			}
			if i := slices.IndexFunc(l, func(x *Index) bool { return x.Serves(n) }); i >= 0 {
				return i, k, true
			}
		}
	}
	return 0, 0, false
}

const ranks = 3

// rank is the less, the fewer entries meet a need, as far as its op tells.
func rank(op int) int {
	switch op {
	case api.NeedEq:
		return 0
	case api.NeedIn:
		return 1
	}
	return 2
}
