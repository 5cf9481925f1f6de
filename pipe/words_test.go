package pipe_test

import (
	"math/big"
	"slices"
	"strings"

	"docket/api"
	"docket/dotpath"
	"docket/filter"
	"docket/jsonval"
	"docket/order"
	"docket/shape"
)

// The chapter's words, written plainly: what the package answers is held against what they say. Errors go up as answers here.

// countsByWords is of how many items an operator's list is; none: of any number.
func countsByWords() map[string][]int {
	counts := map[string][]int{"$cond": {3}}
	for _, name := range []string{"$add", "$multiply", "$concat", "$and", "$or"} {
		counts[name] = nil
	}
	for _, name := range []string{"$subtract", "$divide", "$mod", "$eq", "$ne", "$lt", "$lte", "$gt", "$gte", "$ifNull"} {
		counts[name] = []int{2}
	}
	for _, name := range []string{"$not", "$size", "$type"} {
		counts[name] = []int{1}
	}
	return counts
}

func dollar(v api.Value) bool {
	return v.Kind == api.Object && len(v.Names) > 0 && len(v.Names[0]) > 0 && v.Names[0][0] == '$'
}

// checkByWords is P7.1.
func checkByWords(e api.Value) api.Errno {
	if why := jsonval.Check(e); why != api.OK {
		return why
	}
	nodes := 0
	return nodesByWords(e, &nodes)
}

func nodesByWords(e api.Value, nodes *int) api.Errno {
	number := *nodes
	*nodes++
	if number >= 256 {
		return api.ErrExpr
	}
	inner := e.Items
	switch {
	case e.Kind == api.Text && len(e.Text) > 1 && e.Text[0] == '$':
		if _, why, _ := dotpath.Parse(e.Text[1:]); why != api.OK {
			return api.ErrPath
		}
	case dollar(e) && len(e.Names) != 1:
		return api.ErrExpr
	case dollar(e) && e.Names[0] == "$literal":
		return api.OK
	case dollar(e):
		counts, known := countsByWords()[e.Names[0]]
		if !known || e.Items[0].Kind != api.List || counts != nil && !slices.Contains(counts, len(e.Items[0].Items)) {
			return api.ErrExpr
		}
		inner = e.Items[0].Items
	}
	for _, x := range inner {
		if why := nodesByWords(x, nodes); why != api.OK {
			return why
		}
	}
	return api.OK
}

// tooDeepByWords is 1.1: lists and objects stand at 0 to 63, all others at 0 to 64.
func tooDeepByWords(v api.Value, depth int) bool {
	if depth > 64 || depth > 63 && (v.Kind == api.List || v.Kind == api.Object) {
		return true
	}
	return slices.ContainsFunc(v.Items, func(item api.Value) bool { return tooDeepByWords(item, depth+1) })
}

// evalByWords is P7.2, of an expression and a value.
func evalByWords(e, d api.Value) (api.Value, api.Errno) {
	v, why := goneThrough(e, d)
	if why != api.OK {
		return api.Value{}, why
	}
	if tooDeepByWords(v, 0) {
		return api.Value{}, api.ErrDepth
	}
	return v, api.OK
}

func allGoneThrough(l []api.Value, d api.Value) ([]api.Value, api.Errno) {
	var values []api.Value
	for _, e := range l {
		v, why := goneThrough(e, d)
		if why != api.OK {
			return nil, why
		}
		values = append(values, v)
	}
	return values, api.OK
}

func goneThrough(e, d api.Value) (api.Value, api.Errno) {
	switch {
	case e.Kind == api.Text && e.Text == "$":
		return d, api.OK
	case e.Kind == api.Text && strings.HasPrefix(e.Text, "$"):
		v, there := dotpath.Get(d, strings.Split(e.Text[1:], "."))
		if !there {
			return api.Value{}, api.OK
		}
		return v, api.OK
	case dollar(e) && e.Names[0] == "$literal":
		return e.Items[0], api.OK
	case dollar(e):
		return operationByWords(e.Names[0], e.Items[0].Items, d)
	case e.Kind == api.List || e.Kind == api.Object:
		values, why := allGoneThrough(e.Items, d)
		return odd(e.Kind, e.Names, values...), why
	}
	return e, api.OK
}

func untrue(v api.Value) bool {
	return v.Kind == api.False || v.Kind == api.Null || v.Kind == api.Int && v.Int == 0
}

func operationByWords(name string, operands []api.Value, d api.Value) (api.Value, api.Errno) {
	switch name {
	case "$and", "$or":
		for _, e := range operands {
			v, why := goneThrough(e, d)
			if why != api.OK {
				return v, why
			}
			if name == "$and" && untrue(v) {
				return jsonval.Flag(false), api.OK
			}
			if name == "$or" && !untrue(v) {
				return jsonval.Flag(true), api.OK
			}
		}
		return jsonval.Flag(name == "$and"), api.OK
	case "$cond":
		a, why := goneThrough(operands[0], d)
		if why != api.OK {
			return a, why
		}
		if untrue(a) {
			return goneThrough(operands[2], d)
		}
		return goneThrough(operands[1], d)
	case "$ifNull":
		a, why := goneThrough(operands[0], d)
		if why == api.OK && a.Kind == api.Null {
			return goneThrough(operands[1], d)
		}
		return a, why
	}
	values, why := allGoneThrough(operands, d)
	if why != api.OK {
		return api.Value{}, why
	}
	return madeByWords(name, values)
}

// madeByWords is of the operators that go through all their operands.
func madeByWords(name string, values []api.Value) (api.Value, api.Errno) {
	kind := map[string]int{"$add": api.Int, "$multiply": api.Int, "$subtract": api.Int, "$divide": api.Int, "$mod": api.Int, "$concat": api.Text, "$size": api.List}
	if k, needed := kind[name]; needed {
		for _, v := range values {
			if v.Kind != k {
				return api.Value{}, api.ErrEval
			}
		}
	}
	switch name {
	case "$add", "$multiply", "$subtract", "$divide", "$mod":
		return reckonedByWords(name, values)
	case "$concat":
		text := ""
		for _, v := range values {
			text += v.Text
		}
		return jsonval.Word(text), api.OK
	case "$not":
		return jsonval.Flag(untrue(values[0])), api.OK
	case "$size":
		return jsonval.Of(int64(len(values[0].Items))), api.OK
	case "$type":
		switch values[0].Kind {
		case api.Null:
			return jsonval.Word("null"), api.OK
		case api.False, api.True:
			return jsonval.Word("bool"), api.OK
		case api.Int:
			return jsonval.Word("int"), api.OK
		case api.Text:
			return jsonval.Word("string"), api.OK
		case api.List:
			return jsonval.Word("array"), api.OK
		}
		return jsonval.Word("object"), api.OK
	}
	c := order.Compare(values[0], values[1])
	suits := map[string][]int{"$eq": {0}, "$ne": {-1, 1}, "$lt": {-1}, "$lte": {-1, 0}, "$gt": {1}, "$gte": {0, 1}}
	return jsonval.Flag(slices.Contains(suits[name], c)), api.OK
}

// reckonedByWords reckons in numbers without a bound.
func reckonedByWords(name string, values []api.Value) (api.Value, api.Errno) {
	var l []*big.Int
	for _, v := range values {
		l = append(l, big.NewInt(v.Int))
	}
	n := new(big.Int)
	switch name {
	case "$add":
		for _, x := range l {
			if n.Add(n, x); !n.IsInt64() {
				return api.Value{}, api.ErrOverflow
			}
		}
	case "$multiply":
		n.SetInt64(1)
		for _, x := range l {
			if n.Mul(n, x); !n.IsInt64() {
				return api.Value{}, api.ErrOverflow
			}
		}
	case "$subtract":
		n.Sub(l[0], l[1])
	default:
		if l[1].Sign() == 0 {
			return api.Value{}, api.ErrDivide
		}
		if name == "$divide" {
			n.Quo(l[0], l[1])
		} else {
			n.Rem(l[0], l[1])
		}
	}
	if !n.IsInt64() {
		return api.Value{}, api.ErrOverflow
	}
	return jsonval.Of(n.Int64()), api.OK
}

// parseByWords is P7.3.
func parseByWords(stages api.Value) (api.Errno, int) {
	if e := jsonval.Check(stages); e != api.OK {
		return e, 0
	}
	if stages.Kind != api.List || len(stages.Items) > 16 {
		return api.ErrPipe, 0
	}
	for i, s := range stages.Items {
		if s.Kind != api.Object || len(s.Names) != 1 {
			return api.ErrPipe, i
		}
		if e := stageByWords(s.Names[0], s.Items[0]); e != api.OK {
			return e, i
		}
	}
	return api.OK, 0
}

func stageByWords(name string, x api.Value) (e api.Errno) {
	switch name {
	case "$match":
		_, e = filter.Parse(x)
	case "$sort":
		_, e = shape.ParseSort(x)
	case "$project":
		_, e = shape.ParseFields(x)
	case "$skip", "$limit":
		least := map[string]int64{"$skip": 0, "$limit": 1}
		if x.Kind != api.Int || x.Int < least[name] {
			e = api.ErrSpec
		}
	case "$set":
		e = setByWords(x)
	case "$unwind":
		if x.Kind != api.Text {
			return api.ErrSpec
		}
		_, e, _ = dotpath.Parse(x.Text)
	case "$group":
		e = groupByWords(x)
	case "$count":
		if x.Kind != api.Text || len(x.Text) < 1 || len(x.Text) > 64 || x.Text[0] == '$' || strings.Contains(x.Text, ".") {
			e = api.ErrSpec
		}
	default:
		e = api.ErrStage
	}
	return e
}

func setByWords(x api.Value) api.Errno {
	if x.Kind != api.Object || len(x.Names) == 0 {
		return api.ErrSpec
	}
	for i, name := range x.Names {
		path, e, _ := dotpath.Parse(name)
		if e != api.OK {
			return api.ErrPath
		}
		for _, ahead := range x.Names[:i] {
			if dotpath.Clash(path, strings.Split(ahead, ".")) {
				return api.ErrClash
			}
		}
		if e := checkByWords(x.Items[i]); e != api.OK {
			return e
		}
	}
	return api.OK
}

func groupByWords(x api.Value) api.Errno {
	if x.Kind != api.Object || len(x.Names) == 0 || x.Names[0] != "_id" {
		return api.ErrSpec
	}
	if e := checkByWords(x.Items[0]); e != api.OK {
		return e
	}
	for i := 1; i < len(x.Names); i++ {
		name, c := x.Names[i], x.Items[i]
		if name == "_id" || strings.Contains(name, ".") || strings.HasPrefix(name, "$") || c.Kind != api.Object || len(c.Names) != 1 {
			return api.ErrSpec
		}
		switch c.Names[0] {
		case "$sum", "$min", "$max", "$first", "$last", "$push", "$addToSet", "$avg":
			if e := checkByWords(c.Items[0]); e != api.OK {
				return e
			}
		case "$count":
			if full(c.Items[0]) != "{}" {
				return api.ErrSpec
			}
		default:
			return api.ErrSpec
		}
	}
	return api.OK
}

// runByWords is P7.4, of a pipe.
func runByWords(stages api.Value, l []api.Value) ([]api.Value, api.Errno, int) {
	for _, v := range l {
		if e := jsonval.Check(v); e != api.OK {
			return nil, e, 0
		}
	}
	if len(l) > 4096 {
		return nil, api.ErrMuch, 0
	}
	for i, s := range stages.Items {
		var e api.Errno
		if l, e = throughByWords(s.Names[0], s.Items[0], l); e != api.OK {
			return nil, e, i
		}
	}
	return l, api.OK, 0
}

func throughByWords(name string, x api.Value, l []api.Value) ([]api.Value, api.Errno) {
	var made []api.Value
	switch name {
	case "$match":
		f, _ := filter.Parse(x)
		for _, v := range l {
			if f.Match(v) {
				made = append(made, v)
			}
		}
	case "$sort":
		return sortedByWords(x, l), api.OK
	case "$skip":
		return l[min(int64(len(l)), x.Int):], api.OK
	case "$limit":
		return l[:min(int64(len(l)), x.Int)], api.OK
	case "$project":
		f, _ := shape.ParseFields(x)
		for _, v := range l {
			made = append(made, f.Apply(v))
		}
	case "$set":
		return laidByWords(x, l)
	case "$unwind":
		return unwoundByWords(strings.Split(x.Text, "."), l)
	case "$group":
		return groupedByWords(x, l)
	case "$count":
		return []api.Value{object(x.Text, jsonval.Of(int64(len(l))))}, api.OK
	}
	return made, api.OK
}

// sortedByWords puts each value ahead of the first one that is behind it.
func sortedByWords(x api.Value, l []api.Value) []api.Value {
	s, _ := shape.ParseSort(x)
	ahead := func(a, b api.Value) bool {
		for i, turn := range x.Items {
			if c := order.Compare(s.Key(a, i), s.Key(b, i)); c != 0 {
				return c == -int(turn.Int)
			}
		}
		return false
	}
	var done []api.Value
	for _, v := range l {
		at := len(done)
		for at > 0 && ahead(v, done[at-1]) {
			at--
		}
		done = slices.Insert(done, at, v)
	}
	return done
}

func laidByWords(x api.Value, l []api.Value) ([]api.Value, api.Errno) {
	var made []api.Value
	for _, v := range l {
		w := v
		for i, name := range x.Names {
			y, e := evalByWords(x.Items[i], v)
			if e != api.OK {
				return nil, e
			}
			if w, e = dotpath.Set(w, strings.Split(name, "."), y); e != api.OK {
				return nil, e
			}
		}
		if tooDeepByWords(w, 0) {
			return nil, api.ErrDepth
		}
		made = append(made, w)
	}
	return made, api.OK
}

func unwoundByWords(path []string, l []api.Value) ([]api.Value, api.Errno) {
	var made []api.Value
	for _, v := range l {
		x, there := dotpath.Get(v, path)
		switch {
		case there && x.Kind == api.List:
			for _, item := range x.Items {
				w, _ := dotpath.Set(v, path, item)
				made = append(made, w)
			}
		case there && x.Kind != api.Null:
			made = append(made, v)
		}
	}
	if len(made) > 4096 {
		return nil, api.ErrMuch
	}
	return made, api.OK
}

// wordGroup is a group with, for each collector, what its expression says of each value.
type wordGroup struct {
	id   api.Value
	said [][]api.Value
}

func groupedByWords(x api.Value, l []api.Value) ([]api.Value, api.Errno) {
	var groups []*wordGroup
	for _, v := range l {
		id, e := evalByWords(x.Items[0], v)
		if e != api.OK {
			return nil, e
		}
		i := slices.IndexFunc(groups, func(g *wordGroup) bool { return jsonval.Equal(g.id, id) })
		if i < 0 {
			i = len(groups)
			groups = append(groups, &wordGroup{id, make([][]api.Value, len(x.Items))})
		}
		for c := 1; c < len(x.Items); c++ {
			said := api.Value{}
			name := x.Items[c].Names[0]
			if name != "$count" {
				if said, e = evalByWords(x.Items[c].Items[0], v); e != api.OK {
					return nil, e
				}
			}
			groups[i].said[c] = append(groups[i].said[c], said)
			if name == "$sum" || name == "$avg" {
				if _, e = madeByWords("$add", onlyInts(groups[i].said[c])); e != api.OK {
					return nil, e
				}
			}
		}
	}
	slices.SortFunc(groups, func(a, b *wordGroup) int { return order.Compare(a.id, b.id) })
	var made []api.Value
	for _, g := range groups {
		v := object("_id", g.id)
		for c := 1; c < len(x.Items); c++ {
			v.Names = append(v.Names, x.Names[c])
			v.Items = append(v.Items, collectedByWords(x.Items[c].Names[0], g.said[c]))
		}
		if tooDeepByWords(v, 0) {
			return nil, api.ErrDepth
		}
		made = append(made, v)
	}
	return made, api.OK
}

func onlyInts(l []api.Value) []api.Value {
	return slices.DeleteFunc(slices.Clone(l), func(v api.Value) bool { return v.Kind != api.Int })
}

func collectedByWords(name string, l []api.Value) api.Value {
	sum, _ := madeByWords("$add", onlyInts(l))
	some := order.Sort(slices.DeleteFunc(slices.Clone(l), func(v api.Value) bool { return v.Kind == api.Null }))
	switch name {
	case "$sum":
		return sum
	case "$avg":
		return jsonval.Named([]string{"sum", "count"}, sum, jsonval.Of(int64(len(onlyInts(l)))))
	case "$min":
		if len(some) > 0 {
			return some[0]
		}
		return api.Value{}
	case "$max":
		if len(some) > 0 {
			return some[len(some)-1]
		}
		return api.Value{}
	case "$first":
		return l[0]
	case "$last":
		return l[len(l)-1]
	case "$push":
		return jsonval.Listed(l...)
	case "$count":
		return jsonval.Of(int64(len(l)))
	}
	var different []api.Value
	for _, v := range l {
		if !slices.ContainsFunc(different, func(x api.Value) bool { return jsonval.Equal(x, v) }) {
			different = append(different, v)
		}
	}
	return jsonval.Listed(order.Sort(different)...)
}
