package filter_test

import (
	"slices"
	"strings"

	"docket/api"
	"docket/dotpath"
	"docket/jsonval"
	"docket/order"
)

// The chapter's words, as plainly as they stand there: a query is asked as it is, without being read ahead.

type member struct {
	name string
	item api.Value
}

func membersOf(v api.Value) []member {
	var l []member
	for i := 0; i < len(v.Names) && i < len(v.Items); i++ {
		l = append(l, member{v.Names[i], v.Items[i]})
	}
	return l
}

func isObject(v api.Value) bool { return v.Kind == api.Object }

// hasOperators: an object with a first name that begins with $.
func hasOperators(v api.Value) bool {
	l := membersOf(v)
	return isObject(v) && len(l) > 0 && strings.HasPrefix(l[0].name, "$")
}

func isTestOfItems(v api.Value) bool {
	return hasOperators(v) && !slices.Contains([]string{"$and", "$or", "$nor"}, v.Names[0])
}

func testOf(item api.Value) api.Value {
	if hasOperators(item) {
		return item
	}
	return object("$eq", item)
}

// words finds the first error of a query.
type words struct{ terms int }

func (w *words) query(q api.Value, deep int) api.Errno {
	if !isObject(q) {
		return api.ErrFilter
	}
	if deep > api.MaxNested {
		return api.ErrNested
	}
	for _, m := range membersOf(q) {
		if e := w.clause(m, deep); e != api.OK {
			return e
		}
	}
	return api.OK
}

func (w *words) clause(m member, deep int) api.Errno {
	if m.name == "$and" || m.name == "$or" || m.name == "$nor" {
		if m.item.Kind != api.List || len(m.item.Items) < 1 {
			return api.ErrOperand
		}
		for _, q := range m.item.Items {
			if e := w.query(q, deep+1); e != api.OK {
				return e
			}
		}
		return api.OK
	}
	if len(m.name) > 0 && m.name[0] == '$' {
		return api.ErrOperator
	}
	if _, e, _ := dotpath.Parse(m.name); e != api.OK {
		return api.ErrPath
	}
	return w.test(testOf(m.item), deep)
}

func (w *words) test(t api.Value, deep int) api.Errno {
	if !isObject(t) || len(membersOf(t)) == 0 {
		return api.ErrFilter
	}
	if deep > api.MaxNested {
		return api.ErrNested
	}
	for _, m := range membersOf(t) {
		if w.terms == api.MaxTerms {
			return api.ErrMany
		}
		w.terms++
		if e := w.operator(m, deep); e != api.OK {
			return e
		}
	}
	return api.OK
}

func (w *words) operator(m member, deep int) api.Errno {
	x, fits := m.item, false
	switch m.name {
	case "$eq", "$ne", "$gt", "$gte", "$lt", "$lte":
		fits = true
	case "$in", "$nin", "$all":
		fits = x.Kind == api.List
	case "$exists":
		fits = x.Kind == api.True || x.Kind == api.False
	case "$type":
		fits = x.Kind == api.Text && slices.Contains([]string{"null", "bool", "int", "string", "array", "object"}, x.Text)
	case "$size":
		fits = x.Kind == api.Int && x.Int >= 0
	case "$mod":
		fits = x.Kind == api.List && len(x.Items) == 2 && x.Items[0].Kind == api.Int && x.Items[1].Kind == api.Int && x.Items[0].Int != 0
	case "$not":
		return w.test(x, deep+1)
	case "$elemMatch":
		if isTestOfItems(x) {
			return w.test(x, deep+1)
		}
		return w.query(x, deep+1)
	default:
		return api.ErrOperator
	}
	if !fits {
		return api.ErrOperand
	}
	return api.OK
}

func takes(q, d api.Value) bool {
	for _, m := range membersOf(q) {
		if !clauseHolds(m, d) {
			return false
		}
	}
	return true
}

func clauseHolds(m member, d api.Value) bool {
	took := 0
	for _, q := range m.item.Items {
		if strings.HasPrefix(m.name, "$") && takes(q, d) {
			took++
		}
	}
	switch m.name {
	case "$and":
		return took == len(m.item.Items)
	case "$or":
		return took > 0
	case "$nor":
		return took == 0
	}
	return testHolds(testOf(m.item), dotpath.All(d, strings.Split(m.name, ".")))
}

func testHolds(t api.Value, values []api.Value) bool {
	var tested []api.Value
	for _, v := range values {
		tested = append(tested, v)
		if v.Kind == api.List {
			tested = append(tested, v.Items...)
		}
	}
	for _, m := range membersOf(t) {
		if !operatorHolds(m.name, m.item, values, tested) {
			return false
		}
	}
	return true
}

func sameClass(a, b api.Value) bool {
	return a.Kind == b.Kind || a.Kind == api.True && b.Kind == api.False || a.Kind == api.False && b.Kind == api.True
}

func operatorHolds(name string, x api.Value, values, tested []api.Value) bool {
	any := func(l []api.Value, of func(v api.Value) bool) bool { return slices.ContainsFunc(l, of) }
	eq := func(x api.Value) bool {
		return any(tested, func(v api.Value) bool { return jsonval.Equal(v, x) }) || x.Kind == api.Null && len(values) == 0
	}
	among := func(answers ...int) bool {
		return any(tested, func(v api.Value) bool { return sameClass(v, x) && slices.Contains(answers, order.Compare(v, x)) })
	}
	switch name {
	case "$eq":
		return eq(x)
	case "$ne":
		return !eq(x)
	case "$gt":
		return among(1)
	case "$gte":
		return among(0, 1)
	case "$lt":
		return among(-1)
	case "$lte":
		return among(-1, 0)
	case "$in":
		return any(x.Items, eq)
	case "$nin":
		return !any(x.Items, eq)
	case "$all":
		return len(x.Items) > 0 && !any(x.Items, func(y api.Value) bool { return !eq(y) })
	case "$exists":
		return (len(values) > 0) == (x.Kind == api.True)
	case "$type":
		kinds := map[string][]int{"null": {0}, "bool": {1, 2}, "int": {3}, "string": {4}, "array": {5}, "object": {6}}
		return any(tested, func(v api.Value) bool { return slices.Contains(kinds[x.Text], v.Kind) })
	case "$size":
		return any(values, func(v api.Value) bool { return v.Kind == api.List && len(v.Items) == int(x.Int) })
	case "$mod":
		return any(tested, func(v api.Value) bool { return v.Kind == api.Int && v.Int%x.Items[0].Int == x.Items[1].Int })
	case "$not":
		return !testHolds(x, values)
	}
	return any(values, func(v api.Value) bool {
		return v.Kind == api.List && any(v.Items, func(i api.Value) bool { return itemHolds(x, i) })
	})
}

// itemHolds is of $elemMatch.
func itemHolds(x, item api.Value) bool {
	if isTestOfItems(x) {
		return testHolds(x, []api.Value{item})
	}
	return isObject(item) && takes(x, item)
}

func needsOf(q api.Value) []api.Need {
	numbers := map[string]int{"$eq": 1, "$gt": 2, "$gte": 3, "$lt": 4, "$lte": 5, "$in": 6}
	var l []api.Need
	for _, m := range membersOf(q) {
		switch {
		case m.name == "$and":
			for _, part := range m.item.Items {
				l = append(l, needsOf(part)...)
			}
		case !strings.HasPrefix(m.name, "$"):
			for _, o := range membersOf(testOf(m.item)) {
				if n := numbers[o.name]; n > 0 {
					l = append(l, api.Need{Path: m.name, Op: n, Value: o.item})
				}
			}
		}
	}
	return l
}
