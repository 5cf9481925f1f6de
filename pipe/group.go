package pipe

import (
	"slices"
	"strings"

	"docket/api"
	"docket/jsonval"
	"docket/order"
	"docket/whole"
)

// grouping is what $group takes: names are _id and those of the columns.
type grouping struct {
	names   []string
	id      expression
	columns []column
}

// column is what is collected under a name: what is said of each value, and a collector that is made anew for each group.
type column struct {
	says    expression
	collect func() collector
}

// collector takes the values of one group one by one, and tells what came of them.
type collector struct {
	take func(v api.Value)
	told func() api.Value
}

// group has a collector a column.
type group struct {
	id         api.Value
	collectors []collector
}

func grouped(spec api.Value) stage {
	g := groupingOf(spec)
	return func(l []api.Value) []api.Value {
		var made []api.Value
		for _, found := range g.groups(l) {
			v := g.told(found)
			mustNotBeDeep(v)
			made = append(made, v)
		}
		return made
	}
}

func groupingOf(spec api.Value) grouping {
	if spec.Kind != api.Object || len(spec.Names) == 0 || spec.Names[0] != "_id" {
		giveUp(api.ErrSpec)
	}
	g := grouping{names: spec.Names, id: treeOf(spec.Items[0])}
	for i, name := range spec.Names[1:] {
		if strings.Contains(name, ".") || strings.HasPrefix(name, "$") {
			giveUp(api.ErrSpec)
		}
		g.columns = append(g.columns, columnOf(spec.Items[1+i]))
	}
	return g
}

func columnOf(v api.Value) column {
	if !isPair(v) {
		giveUp(api.ErrSpec)
	}
	name, item := v.Names[0], v.Items[0]
	if name != "$count" {
		collect := collectorOf(name)
		return column{treeOf(item), collect}
	}
	if item.Kind != api.Object || len(item.Names) > 0 {
		giveUp(api.ErrSpec)
	}
	return column{constant{}, counted}
}

// groups are those of the values, by rising ids. What is found wrong is found value by value, so each value goes to its group as it comes.
func (g grouping) groups(l []api.Value) []group {
	var all []group
	places := map[string]int{} // by the bytes of an id, which are unlike for unlike ids
	for _, v := range l {
		id := said(g.id, v)
		key, e := order.Bytes(id)
		must(e)
		at, there := places[string(key)]
		if !there {
			at = len(all)
			places[string(key)] = at
			all = append(all, g.begun(id))
		}
		for i, c := range g.columns {
			all[at].collectors[i].take(said(c.says, v))
		}
	}
	slices.SortFunc(all, func(a, b group) int { return order.Compare(a.id, b.id) })
	return all
}

func (g grouping) begun(id api.Value) group {
	begun := group{id: id}
	for _, c := range g.columns {
		begun.collectors = append(begun.collectors, c.collect())
	}
	return begun
}

func (g grouping) told(found group) api.Value {
	items := []api.Value{found.id}
	for _, c := range found.collectors {
		items = append(items, c.told())
	}
	return jsonval.Named(g.names, items...)
}

// collectorOf leaves out $count, which has no expression.
func collectorOf(name string) func() collector {
	switch name {
	case "$sum":
		return summed
	case "$avg":
		return averaged
	case "$min":
		return best(func(c int) bool { return c < 0 })
	case "$max":
		return best(func(c int) bool { return c > 0 })
	case "$first":
		return first
	case "$last":
		return last
	case "$push":
		return pushed(func(all []api.Value) []api.Value { return all })
	case "$addToSet":
		return pushed(different)
	}
	panic(fault(api.ErrSpec))
}

// tally is of the values that are ints.
type tally struct{ sum, count int64 }

func (t *tally) take(v api.Value) {
	if v.Kind == api.Int {
		t.sum = fitting(whole.Sum(t.sum, v.Int))
		t.count++
	}
}

func summed() collector {
	t := &tally{}
	return collector{t.take, func() api.Value { return jsonval.Of(t.sum) }}
}

func averaged() collector {
	t := &tally{}
	return collector{t.take, func() api.Value {
		return jsonval.Named([]string{"sum", "count"}, jsonval.Of(t.sum), jsonval.Of(t.count))
	}}
}

func counted() collector {
	n := int64(0)
	return collector{func(api.Value) { n++ }, func() api.Value { return jsonval.Of(n) }}
}

// best is handed which answers of order.Compare suit: of a value and, behind it, the best so far.
func best(suits func(c int) bool) func() collector {
	return func() collector {
		var kept api.Value // null: there is none so far
		take := func(v api.Value) {
			if v.Kind != api.Null && (kept.Kind == api.Null || suits(order.Compare(v, kept))) {
				kept = v
			}
		}
		return collector{take, func() api.Value { return kept }}
	}
}

func first() collector {
	var kept api.Value
	begun := false
	take := func(v api.Value) {
		if !begun {
			kept, begun = v, true
		}
	}
	return collector{take, func() api.Value { return kept }}
}

func last() collector {
	var kept api.Value
	return collector{func(v api.Value) { kept = v }, func() api.Value { return kept }}
}

// pushed is handed which of all values are told, and in which order.
func pushed(told func(all []api.Value) []api.Value) func() collector {
	return func() collector {
		var all []api.Value
		take := func(v api.Value) { all = append(all, v) }
		return collector{take, func() api.Value { return jsonval.Listed(told(all)...) }}
	}
}

// different leaves out what is Equal to one ahead: in their order these are neighbours.
func different(all []api.Value) []api.Value {
	return slices.CompactFunc(order.Sort(all), jsonval.Equal)
}
