package pipe_test

import (
	"math"
	"math/rand"
	"slices"
	"strconv"
	"strings"
	"testing"

	"docket/api"
	"docket/jsonval"
	"docket/pipe"
)

func parsed(t *testing.T, text string) api.Value {
	t.Helper()
	v, e, at := jsonval.Parse(text)
	if e != api.OK {
		t.Fatalf("Parse(%q): %d at %d", text, e, at)
	}
	return v
}

// piped is the pipe of stages that must be one.
func piped(t *testing.T, stages api.Value) *pipe.Pipe {
	t.Helper()
	p, e, at := pipe.Parse(stages)
	if e != api.OK || at != 0 || p == nil {
		t.Fatalf("Parse(%.300s): %d at %d", full(stages), e, at)
	}
	return p
}

// told is all values of a list, as one text.
func told(l []api.Value) string {
	var all []string
	for _, v := range l {
		all = append(all, full(v))
	}
	return "[" + strings.Join(all, ",") + "]"
}

func isZero(v api.Value) bool { return jsonval.Equal(v, api.Value{}) }

func object(name string, item api.Value) api.Value {
	return jsonval.Named([]string{name}, item)
}

// odd is a Value of these parts, whatever they are.
func odd(kind int, names []string, items ...api.Value) api.Value {
	return api.Value{Kind: kind, Names: names, Items: items}
}

// full tells all of a value, also what its kind does not name.
func full(v api.Value) string {
	if text, e := jsonval.Print(v); e == api.OK {
		return text
	}
	var b strings.Builder
	b.WriteString(strconv.Itoa(v.Kind) + "/" + strconv.FormatInt(v.Int, 10) + "/" + strconv.Quote(v.Text) + "(")
	for _, name := range v.Names {
		b.WriteString(strconv.Quote(name) + " ")
	}
	b.WriteString("|")
	for _, item := range v.Items {
		b.WriteString(full(item) + " ")
	}
	return b.String() + ")"
}

// roomy is v with spare room behind each of its lists, in which something stands.
func roomy(v api.Value) api.Value {
	items := make([]api.Value, 0, len(v.Items)+2)
	for _, item := range v.Items {
		items = append(items, roomy(item))
	}
	v.Items = append(items, jsonval.Of(-1), jsonval.Of(-2))[:len(v.Items)]
	v.Names = append(append(make([]string, 0, len(v.Names)+2), v.Names...), "spare", "room")[:len(v.Names)]
	return v
}

// spare tells all of a value with what stands in the spare room of its lists.
func spare(v api.Value) string {
	told := full(v) + strings.Join(v.Names[:cap(v.Names)], " ")
	for _, item := range v.Items[:cap(v.Items)] {
		told += " " + full(item)
	}
	for _, item := range v.Items {
		told += spare(item)
	}
	return told
}

// nested is inner within n lists.
func nested(n int, inner api.Value) api.Value {
	for range n {
		inner = jsonval.Listed(inner)
	}
	return inner
}

// several is n times the same.
func several(n int, v api.Value) []api.Value { return slices.Repeat([]api.Value{v}, n) }

// numbers are objects with 0, 1, 2 .. at n.
func numbers(n int) []api.Value {
	var l []api.Value
	for i := range n {
		l = append(l, object("n", jsonval.Of(int64(i))))
	}
	return l
}

// dice makes values, expressions and pipes that are the same in each run, of few parts, so that much of them meets.
type dice struct{ *rand.Rand }

func newDice(seed int64) dice { return dice{rand.New(rand.NewSource(seed))} }

func pick[T any](d dice, from ...T) T { return from[d.Intn(len(from))] }

func (d dice) name() string { return pick(d, "n", "m", "k", "w", "l", "o", "0", "1") }

func (d dice) number() api.Value {
	if d.Intn(8) == 0 {
		return jsonval.Of(pick(d, int64(math.MaxInt64), math.MaxInt64-1, math.MinInt64, math.MinInt64+1, 1<<62, 1<<32, -1<<32))
	}
	return jsonval.Of(int64(d.Intn(7) - 2))
}

func (d dice) value(deep int) api.Value {
	switch kind := d.Intn(12); {
	case deep > 0 && kind < 2:
		return d.list(deep)
	case deep > 0 && kind < 4:
		return d.plain(deep)
	case kind < 6:
		return pick(d, api.Value{}, jsonval.Flag(true), jsonval.Flag(false))
	case kind < 8:
		return d.word()
	}
	return d.number()
}

func (d dice) word() api.Value { return jsonval.Word(pick(d, "", "x", "y", "é", "xy")) }

func (d dice) list(deep int) api.Value {
	var items []api.Value
	for range d.Intn(4) {
		items = append(items, d.value(deep-1))
	}
	return jsonval.Listed(items...)
}

// plain is an object with members of all kinds.
func (d dice) plain(deep int) api.Value {
	var names []string
	var items []api.Value
	for range d.Intn(4) {
		if name := d.name(); !slices.Contains(names, name) {
			names, items = append(names, name), append(items, d.value(deep-1))
		}
	}
	return jsonval.Named(names, items...)
}

// document has mostly numbers at n and m, a text at w, a list at l, few values at k, an object at o.
func (d dice) document() api.Value {
	v := api.Value{Kind: api.Object}
	for _, name := range []string{"n", "m", "w", "l", "k", "o"} {
		if d.Intn(8) == 0 {
			continue
		}
		item := d.value(2)
		if d.Intn(6) > 0 {
			switch name {
			case "n", "m":
				item = d.number()
			case "w":
				item = d.word()
			case "l":
				item = d.list(2)
			case "k":
				item = pick(d, jsonval.Word("a"), jsonval.Word("b"), jsonval.Of(1), api.Value{}, jsonval.Listed(), jsonval.Listed(jsonval.Of(1)))
			case "o":
				item = d.plain(2)
			}
		}
		v.Names, v.Items = append(v.Names, name), append(v.Items, item)
	}
	return v
}

// docs are documents, and now and then other values.
func (d dice) docs(n int) []api.Value {
	var l []api.Value
	for range n {
		v := d.document()
		if d.Intn(25) == 0 {
			v = d.value(3)
		}
		l = append(l, v)
	}
	return l
}

func (d dice) path() string {
	path := pick(d, "n", "m", "k", "w", "l", "o", "x", "l.0", "l.1", "o.n", "o.k")
	if d.Intn(8) == 0 {
		path += "." + d.name()
	}
	return path
}

// operation is an operator with operands.
func operation(name string, operands ...api.Value) api.Value {
	return object(name, jsonval.Listed(operands...))
}

// some are operands that a function makes.
func (d dice) some(n int, make func(deep int) api.Value, deep int) []api.Value {
	var l []api.Value
	for range n {
		l = append(l, make(deep-1))
	}
	return l
}

// ofInts is an expression that mostly says an int.
func (d dice) ofInts(deep int) api.Value {
	switch kind := d.Intn(14); {
	case kind == 0:
		return d.expression(deep - 1)
	case deep > 0 && kind < 4:
		return operation(pick(d, "$add", "$multiply"), d.some(d.Intn(4), d.ofInts, deep)...)
	case deep > 0 && kind < 7:
		return operation(pick(d, "$subtract", "$divide", "$mod"), d.some(2, d.ofInts, deep)...)
	case deep > 0 && kind == 7:
		return operation("$size", jsonval.Word("$l"))
	case deep > 0 && kind == 8:
		return operation("$ifNull", jsonval.Word("$x"), d.ofInts(deep-1))
	case kind < 11:
		return jsonval.Word(pick(d, "$n", "$m", "$l.0", "$o.n"))
	}
	return d.number()
}

// ofWords is an expression that mostly says a text.
func (d dice) ofWords(deep int) api.Value {
	switch kind := d.Intn(8); {
	case kind == 0:
		return d.expression(deep - 1)
	case deep > 0 && kind < 3:
		return operation("$concat", d.some(d.Intn(4), d.ofWords, deep)...)
	case deep > 0 && kind == 3:
		return operation("$type", d.expression(deep-1))
	case kind < 6:
		return jsonval.Word("$w")
	}
	return d.word()
}

// ofTruths is an expression that says true or false.
func (d dice) ofTruths(deep int) api.Value {
	switch d.Intn(4) {
	case 0:
		return operation(pick(d, "$and", "$or"), d.some(d.Intn(4), d.expression, deep)...)
	case 1:
		return operation("$not", d.expression(deep-1))
	}
	return operation(pick(d, "$eq", "$ne", "$lt", "$lte", "$gt", "$gte"), d.some(2, d.expression, deep)...)
}

// expression is one of any kind.
func (d dice) expression(deep int) api.Value {
	if deep <= 0 {
		return pick(d, d.number(), d.word(), jsonval.Word("$"+d.path()), jsonval.Word("$"), jsonval.Flag(true), api.Value{})
	}
	switch d.Intn(11) {
	case 0:
		return jsonval.Listed(d.some(d.Intn(4), d.expression, deep)...)
	case 1:
		v := d.plain(0)
		for i := range v.Items {
			v.Items[i] = d.expression(deep - 1)
		}
		return v
	case 2:
		return object("$literal", pick(d, d.value(2), jsonval.Word("$n"), object("$go", jsonval.Of(1))))
	case 3, 4:
		return d.ofInts(deep)
	case 5:
		return d.ofWords(deep)
	case 6, 7:
		return d.ofTruths(deep)
	case 8:
		return operation("$cond", d.some(3, d.expression, deep)...)
	case 9:
		return operation("$ifNull", d.some(2, d.expression, deep)...)
	}
	return operation(pick(d, "$size", "$type"), d.expression(deep-1))
}

// changed is v with one of its parts, at any depth, as a function makes it.
func (d dice) changed(v api.Value, made func(v api.Value) api.Value) api.Value {
	if len(v.Items) == 0 || d.Intn(5) == 0 {
		return made(v)
	}
	v.Names, v.Items = slices.Clone(v.Names), slices.Clone(v.Items)
	i := d.Intn(len(v.Items))
	v.Items[i] = d.changed(v.Items[i], made)
	return v
}

// faulty is an expression, or a pipe, with something thrown in that need not belong there.
func (d dice) faulty(v api.Value) api.Value {
	return d.changed(v, func(v api.Value) api.Value {
		switch d.Intn(12) {
		case 0:
			return jsonval.Word(pick(d, "$.x", "$a..b", "$$", "$a.$b", "$"+strings.Repeat("s", 65), "$"+strings.Repeat("a.", 16)+"a"))
		case 1:
			return object(pick(d, "$go", "$", "$Add", "$add", "$literal", "$eq", "$not", "$sum", "$count", "$match", "$limit"), v)
		case 2:
			return operation(pick(d, "$go", "$subtract", "$eq", "$not", "$cond", "$size", "$ifNull"), v, v)
		case 3:
			return jsonval.Named([]string{"$add", "b"}, jsonval.Listed(v), v)
		case 4:
			return jsonval.Named([]string{"b", "$add"}, v, v)
		case 5:
			return jsonval.Listed(several(pick(d, 250, 255, 256, 257), pick(d, jsonval.Of(1), jsonval.Listed()))...)
		case 6:
			return jsonval.Listed()
		case 7:
			return object("a", v)
		case 8:
			if n := len(v.Items); n > 0 {
				return odd(v.Kind, v.Names[:min(len(v.Names), n-1)], v.Items[:n-1]...)
			}
		case 9:
			if v.Kind == api.Object && len(v.Names) > 0 {
				v.Names = append([]string{pick(d, "$go", "a.b", "x", "_id", "", "$sum", "a.")}, v.Names[1:]...)
				return v
			}
		case 10:
			return d.value(2)
		}
		return pick(d, jsonval.Of(0), jsonval.Of(1), jsonval.Of(-1), jsonval.Word("a.b"), api.Value{}, jsonval.Named(nil))
	})
}

// spoilt is a value with a part that jsonval.Check refuses.
func (d dice) spoilt(v api.Value) api.Value {
	return d.changed(v, func(v api.Value) api.Value {
		switch d.Intn(5) {
		case 0:
			v.Kind = pick(d, -1, 7)
		case 1:
			v.Names = append(slices.Clip(v.Names), d.name())
		case 2:
			return jsonval.Word("\xff")
		case 3:
			return nested(api.MaxDepth+1, v)
		case 4:
			return odd(api.Object, []string{"a", "a"}, v, v)
		}
		return v
	})
}

// deepened is an expression in which something stands so deep that what is said of a value may be nested too deep.
func (d dice) deepened(e api.Value) api.Value {
	return nested(pick(d, 3, 30, 40), e)
}

// query is one of chapter 4.
func (d dice) query() api.Value {
	v := api.Value{Kind: api.Object}
	for range d.Intn(3) {
		name := d.path()
		if slices.Contains(v.Names, name) {
			continue
		}
		item := d.value(1)
		if d.Intn(3) > 0 {
			item = object(pick(d, "$gt", "$lte", "$ne", "$exists", "$eq"), jsonval.Of(int64(d.Intn(3))))
			if item.Names[0] == "$exists" {
				item.Items[0] = jsonval.Flag(d.Intn(2) == 0)
			}
		}
		v.Names, v.Items = append(v.Names, name), append(v.Items, item)
	}
	return v
}

// named is an object of members with unlike names.
func (d dice) named(n int, name func() string, item func() api.Value) api.Value {
	v := api.Value{Kind: api.Object}
	for range n {
		if name := name(); !slices.Contains(v.Names, name) {
			v.Names, v.Items = append(v.Names, name), append(v.Items, item())
		}
	}
	return v
}

func (d dice) group() api.Value {
	v := d.named(d.Intn(5), func() string { return pick(d, "s", "c", "t", "", "n", "k", "w") }, func() api.Value {
		name := pick(d, "$sum", "$min", "$max", "$first", "$last", "$push", "$addToSet", "$avg", "$count")
		switch {
		case name == "$count":
			return object(name, jsonval.Named(nil))
		case name == "$sum" || name == "$avg" || d.Intn(3) == 0:
			return object(name, d.ofInts(1))
		}
		return object(name, d.expression(1))
	})
	id := pick(d, jsonval.Word("$k"), jsonval.Word("$k"), jsonval.Word("$"), api.Value{}, d.expression(2))
	return jsonval.Named(append([]string{"_id"}, v.Names...), append([]api.Value{id}, v.Items...)...)
}

// stage is one of any kind.
func (d dice) stage() api.Value {
	name := pick(d, "$match", "$sort", "$skip", "$limit", "$project", "$set", "$set", "$set", "$unwind", "$unwind", "$group", "$group", "$count")
	switch name {
	case "$match":
		return object(name, d.query())
	case "$sort":
		return object(name, d.named(d.Intn(3), d.path, func() api.Value { return jsonval.Of(pick(d, int64(1), -1)) }))
	case "$skip", "$limit":
		return object(name, jsonval.Of(int64(1+d.Intn(5))))
	case "$project":
		in := pick(d, int64(0), 1)
		return object(name, d.named(d.Intn(3), func() string { return pick(d, "n", "m", "k", "o.n", "o.k", "l.n", "w") }, func() api.Value { return jsonval.Of(in) }))
	case "$set":
		return object(name, d.named(1+d.Intn(3), d.laidAt, func() api.Value {
			if d.Intn(2) == 0 {
				return d.ofInts(2)
			}
			return d.expression(2)
		}))
	case "$unwind":
		return object(name, jsonval.Word(pick(d, "l", "l", "k", "o.l", "x", "w", "l.0")))
	case "$group":
		return object(name, d.group())
	}
	return object("$count", jsonval.Word(pick(d, "c", "n", "k")))
}

// laidAt is a path that clashes seldom with others of its kind.
func (d dice) laidAt() string {
	if d.Intn(6) == 0 {
		return d.path()
	}
	return pick(d, "n", "m", "x", "y.z", "o.q", "l.0", "l.3", "k", "w")
}

// stages are those of a pipe.
func (d dice) stages(n int) api.Value {
	var l []api.Value
	for range n {
		l = append(l, d.stage())
	}
	return jsonval.Listed(l...)
}
