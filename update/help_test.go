package update_test

import (
	"math"
	"math/rand"
	"slices"
	"strconv"
	"strings"
	"testing"

	"docket/api"
	"docket/dotpath"
	"docket/jsonval"
	"docket/update"
)

// document is D of the chapter's examples.
const document = `{"n":5,"t":["x"],"l":[{"q":1},{"q":2}]}`

func parsed(t *testing.T, text string) api.Value {
	t.Helper()
	v, e, at := jsonval.Parse(text)
	if e != api.OK {
		t.Fatalf("Parse(%q): %d at %d", text, e, at)
	}
	return v
}

func printed(t *testing.T, v api.Value) string {
	t.Helper()
	text, e := jsonval.Print(v)
	if e != api.OK {
		t.Fatalf("Print(%s): %d", full(v), e)
	}
	return text
}

// made is the update of a list of operators that must be one.
func made(t *testing.T, ops, filters api.Value) *update.Update {
	t.Helper()
	u, e, at := update.Parse(ops, filters)
	if e != api.OK || at != 0 || u == nil {
		t.Fatalf("Parse(%.300s, %.300s): %d at %d", full(ops), full(filters), e, at)
	}
	return u
}

// applied is what comes of a document that must be taken, and whether it is another one.
func applied(t *testing.T, u *update.Update, d api.Value, fresh bool) (api.Value, bool) {
	t.Helper()
	v, changed, e, at := u.Apply(d, fresh)
	if e != api.OK || at != 0 {
		t.Fatalf("Apply(%.300s): %d at %d", full(d), e, at)
	}
	return v, changed
}

// checkApplied holds Apply of texts against a text, or an error and its term.
func checkApplied(t *testing.T, ops, filters, d string, fresh bool, want string, wantE api.Errno, wantAt int) {
	t.Helper()
	before := parsed(t, d)
	v, changed, e, at := made(t, parsed(t, ops), parsed(t, filters)).Apply(before, fresh)
	if wantE != api.OK {
		if e != wantE || at != wantAt || changed || !isZero(v) {
			t.Errorf("%.300s of %.300s: %.300s, %v, %d at %d; want %d at %d", ops, d, full(v), changed, e, at, wantE, wantAt)
		}
		return
	}
	if e != api.OK || at != 0 || printed(t, v) != want || changed != (want != printed(t, before)) {
		t.Errorf("%.300s of %.300s: %.300s, %v, %d at %d; want %.300s", ops, d, full(v), changed, e, at, want)
	}
}

func checkRefused(t *testing.T, ops, filters api.Value, want api.Errno, wantAt int) {
	t.Helper()
	u, e, at := update.Parse(ops, filters)
	if e != want || at != wantAt || (u == nil) != (want != api.OK) {
		t.Errorf("Parse(%.300s, %.300s): %d at %d; want %d at %d", full(ops), full(filters), e, at, want, wantAt)
	}
}

func isZero(v api.Value) bool {
	return v.Kind == 0 && v.Int == 0 && v.Text == "" && v.Names == nil && v.Items == nil
}

func object(name string, item api.Value) api.Value {
	return jsonval.Named([]string{name}, item)
}

// odd is a Value of these parts, whatever they are.
func odd(kind int, names []string, items ...api.Value) api.Value {
	return api.Value{Kind: kind, Names: names, Items: items}
}

// full tells all of a value, also what its kind does not name.
func full(v api.Value) string {
	if text, e := jsonval.Print(v); e == api.OK {
		return text
	}
	var b strings.Builder
	b.WriteString(strconv.Itoa(v.Kind) + "/" + strconv.FormatInt(v.Int, 10) + "/" + strconv.Quote(v.Text) + "(")
	for _, name := range v.Names {
		b.WriteString(strconv.Quote(name) + " ")
	}
	b.WriteString("|")
	for _, item := range v.Items {
		b.WriteString(full(item) + " ")
	}
	return b.String() + ")"
}

// roomy is v with spare room behind each of its lists, in which something stands.
func roomy(v api.Value) api.Value {
	items := make([]api.Value, 0, len(v.Items)+2)
	for _, item := range v.Items {
		items = append(items, roomy(item))
	}
	v.Items = append(items, jsonval.Of(-1), jsonval.Of(-2))[:len(v.Items)]
	v.Names = append(append(make([]string, 0, len(v.Names)+2), v.Names...), "spare", "room")[:len(v.Names)]
	return v
}

// spare tells all of a value with what stands in the spare room of its lists.
func spare(v api.Value) string {
	told := full(v) + strings.Join(v.Names[:cap(v.Names)], " ")
	for _, item := range v.Items[:cap(v.Items)] {
		told += " " + full(item)
	}
	for _, item := range v.Items {
		told += spare(item)
	}
	return told
}

// nested is inner within n lists.
func nested(n int, inner api.Value) api.Value {
	for range n {
		inner = jsonval.Listed(inner)
	}
	return inner
}

// many is n texts that a function makes, with commas between them.
func many(n int, of func(i int) string) string {
	var l []string
	for i := range n {
		l = append(l, of(i))
	}
	return strings.Join(l, ",")
}

// dice makes values and updates that are the same in each run, of few parts, so that much of them meets.
type dice struct{ *rand.Rand }

func newDice(seed int64) dice { return dice{rand.New(rand.NewSource(seed))} }

func pick[T any](d dice, from ...T) T { return from[d.Intn(len(from))] }

func (d dice) name() string { return pick(d, "a", "b", "c", "d", "e", "0", "1") }

func (d dice) value(deep int) api.Value {
	switch kind := d.Intn(12); {
	case deep > 0 && kind < 4:
		return jsonval.Listed(d.values(deep-1, 4)...)
	case deep > 0 && kind < 7:
		return d.document(deep)
	case kind == 7:
		return pick(d, api.Value{}, jsonval.Flag(true), jsonval.Flag(false))
	case kind == 8:
		return jsonval.Word(pick(d, "", "x", "y"))
	case kind == 9:
		return jsonval.Of(pick(d, math.MaxInt64, math.MinInt64, int64(-3)))
	}
	return jsonval.Of(int64(d.Intn(4)))
}

func (d dice) values(deep, below int) []api.Value {
	var items []api.Value
	for range d.Intn(below) {
		items = append(items, d.value(deep))
	}
	return items
}

func (d dice) document(deep int) api.Value {
	var names []string
	var items []api.Value
	for range d.Intn(6) {
		if name := d.name(); !slices.Contains(names, name) {
			names, items = append(names, name), append(items, d.value(deep-1))
		}
	}
	return jsonval.Named(names, items...)
}

// path is mostly one of a place in v, its indexes often parts that mean items, or one that goes on from there.
func (d dice) path(v api.Value) string {
	var all [][]string
	for path := range dotpath.Walk(v) {
		all = append(all, path)
	}
	if len(all) == 0 || d.Intn(4) == 0 {
		all = [][]string{{d.name()}}
	}
	path := slices.Clone(pick(d, all...))
	for i, segment := range path {
		if _, number := dotpath.Index(segment); number && i > 0 && d.Intn(2) == 0 {
			path[i] = pick(d, "$[]", "$[x]", "$[y]")
		}
	}
	for d.Intn(5) == 0 {
		path = append(path, pick(d, d.name(), d.name(), "5", "$[]", "$[x]"))
	}
	return strings.Join(path, ".")
}

func verbs() []string {
	return []string{"$set", "$setOnInsert", "$unset", "$inc", "$mul", "$min", "$max", "$rename", "$push", "$addToSet", "$pop", "$pull", "$pullAll"}
}

// operand is one that the verb takes.
func (d dice) operand(verb string) api.Value {
	each := jsonval.Listed(d.values(1, 4)...)
	switch verb {
	case "$inc", "$mul":
		return jsonval.Of(pick(d, math.MaxInt64, math.MinInt64, int64(-1), 0, 1, 2, 3))
	case "$rename":
		return jsonval.Word(pick(d, d.name(), d.name(), d.name()+"."+d.name()))
	case "$push":
		return pick(d, d.value(2), object("$each", each), d.batch(each), d.batch(each))
	case "$addToSet":
		return pick(d, d.value(1), object("$each", each))
	case "$pop":
		return jsonval.Of(pick(d, int64(1), -1))
	case "$pull":
		return pick(d, d.value(1), d.test(), object(d.name(), d.test()), object("$or", jsonval.Listed(object(d.name(), d.test()), object("a", d.value(1)))))
	case "$pullAll":
		return jsonval.Listed(d.values(1, 9)...)
	}
	return d.value(2)
}

func (d dice) batch(each api.Value) api.Value {
	names, items := []string{"$each", "$position", "$slice"}, []api.Value{each, jsonval.Of(int64(d.Intn(7) - 3)), jsonval.Of(int64(d.Intn(7) - 3))}
	d.Shuffle(len(names), func(i, j int) {
		names[i], names[j], items[i], items[j] = names[j], names[i], items[j], items[i]
	})
	if i := d.Intn(len(names)); names[i] != "$each" {
		names, items = slices.Delete(names, i, i+1), slices.Delete(items, i, i+1)
	}
	return jsonval.Named(names, items...)
}

func (d dice) test() api.Value {
	return pick(d, object("$gt", d.value(0)), object("$lte", d.value(0)), object("$ne", d.value(1)), object("$in", jsonval.Listed(d.values(1, 4)...)), object("$exists", jsonval.Flag(d.Intn(2) == 0)))
}

// update is a list of operators with filters, for a document: mostly one that Parse takes.
func (d dice) update(v api.Value) (ops, filters api.Value) {
	ops = api.Value{Kind: api.Object}
	var texts []string
	for range 1 + d.Intn(3) {
		verb := pick(d, verbs()...)
		terms := api.Value{Kind: api.Object}
		for range 1 + d.Intn(2) {
			name := d.path(v)
			if verb == "$rename" && d.Intn(8) > 0 {
				name = d.name()
			}
			if slices.Contains(terms.Names, name) || slices.Contains(ops.Names, verb) {
				continue
			}
			texts = append(texts, name)
			terms.Names, terms.Items = append(terms.Names, name), append(terms.Items, d.operand(verb))
		}
		if len(terms.Names) > 0 {
			ops.Names, ops.Items = append(ops.Names, verb), append(ops.Items, terms)
		}
	}
	return ops, d.filters(strings.Join(texts, " "))
}

// filters are those of the names that stand in the texts of an update.
func (d dice) filters(texts string) api.Value {
	var l []api.Value
	for _, name := range []string{"x", "y"} {
		if strings.Contains(texts, "$["+name+"]") {
			l = append(l, object(name+pick(d, "", "", ".a", ".a.0"), pick(d, d.test(), d.test(), d.value(1))))
		}
	}
	if len(l) == 0 {
		return pick(d, api.Value{}, jsonval.Listed())
	}
	return jsonval.Listed(l...)
}

// faulty is a value with something thrown in that need not belong there.
func (d dice) faulty(v api.Value) api.Value {
	v.Names, v.Items = slices.Clone(v.Names), slices.Clone(v.Items)
	names := append(verbs(), "$x", "$", "", "a..b", "a", "a.$b", "b.$[x]", "$[]", "$each", "$slice", "$position", "x", "y", "z", "x.b", "x..b", "a.$[z]")
	switch n := len(v.Items); {
	case n == 0 || d.Intn(6) == 0:
		return pick(d, d.value(2), jsonval.Listed(), d.test(), d.operand("$push"), d.operand("$rename"), odd(api.Object, nil), jsonval.Word("a..b"), object("$in", d.value(0)))
	case len(v.Names) > 0 && d.Intn(3) == 0:
		v.Names[d.Intn(len(v.Names))] = pick(d, names...)
	case d.Intn(12) == 0:
		v.Items = append(v.Items, d.faulty(pick(d, v.Items...)))
		if v.Kind == api.Object {
			v.Names = append(v.Names, pick(d, names...))
		}
	default:
		i := d.Intn(n)
		v.Items[i] = d.faulty(v.Items[i])
	}
	return v
}

// spoilt is a value with a part that jsonval.Check refuses.
func (d dice) spoilt(v api.Value) api.Value {
	v.Names, v.Items = slices.Clone(v.Names), slices.Clone(v.Items)
	if len(v.Items) > 0 && d.Intn(3) > 0 {
		i := d.Intn(len(v.Items))
		v.Items[i] = d.spoilt(v.Items[i])
		return v
	}
	switch d.Intn(5) {
	case 0:
		v.Kind = pick(d, -1, 7)
	case 1:
		v.Names = append(v.Names, d.name())
	case 2:
		v.Text += "\xff"
	case 3:
		v = nested(api.MaxDepth+1, v)
	case 4:
		v = odd(api.Object, []string{"a", "a"}, v, v)
	}
	return v
}
