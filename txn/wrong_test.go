package txn_test

import (
	"slices"
	"strings"
	"testing"

	"docket/api"
	"docket/jsonval"
	"docket/txn"
)

// broken are Values that no text says.
func broken() []api.Value {
	return []api.Value{
		{Kind: 9}, {Kind: -1}, {Kind: api.Object, Names: []string{"a"}}, {Kind: api.Object, Items: []api.Value{{}}},
		{Kind: api.Object, Names: []string{"a", "a"}, Items: []api.Value{{}, {}}}, {Kind: api.Int, Text: "x"},
		{Kind: api.List, Items: []api.Value{{Kind: 9}}}, {Kind: api.Text, Text: "\xff"}, {Kind: api.Null, Int: 7},
		{Kind: api.Object, Names: []string{"n"}, Items: []api.Value{{Kind: api.Object, Names: []string{"k", "l"}, Items: []api.Value{{Kind: 77}}}}},
		nestedTo(100), nestedTo(60000),
	}
}

// nestedTo is objects in objects, so many.
func nestedTo(depth int) api.Value {
	v := api.Value{Kind: api.Object}
	for range depth {
		v = api.Value{Kind: api.Object, Names: []string{"n"}, Items: []api.Value{v}}
	}
	return v
}

// Rule 1: values that are none, in each place of a request and of a document.
func TestBrokenValues(t *testing.T) {
	for i, v := range broken() {
		for op := 0; op <= 22; op++ {
			for _, upsert := range []bool{false, true} {
				good := api.Request{Op: op, In: "c", Id: "a", Value: val(`{}`), Ops: val(`{"$set":{"n":1}}`), Upsert: upsert, Fields: val(`{"n":1}`)}
				value, ops, filters, fields := good, good, good, good
				value.Value, ops.Ops, filters.Filters, fields.Fields = v, v, v, v
				for _, r := range []api.Request{good, value, ops, filters, fields} {
					for _, was := range []api.Item{none, {Key: "a", Version: 1, Value: v}, item("a", 1, `{"n":1}`)} {
						for _, there := range []bool{false, true} {
							o := txn.One(r, was, there, 9)
							names, items := txn.Told(r, o, 9)
							if len(names) != len(items) || o.E != isOK && len(names) != 0 {
								t.Errorf("value %d: %q", i, names)
							}
							r.New = !r.New
							txn.Told(r, o, 9)
							b := newBook()
							if there {
								b.items["c/a"] = was
							}
							results, _, e, at := txn.All(quiet{b}, []api.Request{r}, modeAll, 9)
							if e != o.E || (at == -1) != (e == isOK) || (len(results) == 1) != (e == isOK) {
								t.Errorf("value %d: %d, %d, not %d", i, e, at, o.E)
							}
						}
					}
				}
			}
		}
	}
}

// quiet is a book that writes nothing down, as some values are too much to be told.
type quiet struct{ b *book }

func (q quiet) Item(in, id string) (api.Item, bool, api.Errno) {
	x, there := q.b.items[in+"/"+id]
	return x, there, isOK
}

func (q quiet) Commit(in string, was, now []api.Item) api.Errno { return isOK }

// P20.1: no values are looked into where nothing is said of it: an insert and a replace take what request.Parse let through.
func TestTakenAsTheyAre(t *testing.T) {
	for _, v := range append(broken()[:9], val(`7`), val(`null`), val(nest(40)), jsonval.Word(strings.Repeat("x", api.MaxDoc))) {
		o := txn.One(api.Request{Op: api.OpInsert, Id: "a", Value: v}, none, false, stamp)
		if want := made(api.Item{Key: "a", Version: stamp, Value: v}); tellOutcome(o) != tellOutcome(want) {
			t.Error(tellOutcome(o))
		}
		was := item("a", 1, `{"n":1}`)
		o = txn.One(api.Request{Op: api.OpReplace, Id: "a", Value: v}, was, true, stamp)
		if want := became(was, api.Item{Key: "a", Version: stamp, Value: v}); tellOutcome(o) != tellOutcome(want) {
			t.Error(tellOutcome(o))
		}
		was.Value = v
		o = txn.One(api.Request{Op: api.OpReplace, Id: "a", Value: v}, was, true, stamp)
		if tellOutcome(o) != tellOutcome(kept(was)) {
			t.Error(tellOutcome(o))
		}
	}
}

// P20.1: what lies there and is no document is update.Apply's error.
func TestNoDocument(t *testing.T) {
	for _, v := range []api.Value{val(`7`), val(`null`), val(`[]`), {Kind: 9}} {
		was := api.Item{Key: "a", Version: 3, Value: v}
		both(t, `'ops':{'$set':{'n':1}}`, was, true, failed(api.ErrDoc))
		both(t, `'ops':{'$set':{'n':1}},'version':4`, was, true, failed(isStale))
	}
}

// P20.1: a document keeps the Key under which it lies; a new one has the request's.
func TestKeyOfAnother(t *testing.T) {
	was := item("b", 3, `{"n":1}`)
	of(t, `{'op':'replace','in':'c','id':'a','value':{'n':2}}`, was, became(was, item("b", 7, `{"n":2}`)))
	of(t, `{'op':'replace','in':'c','id':'a','value':{'n':1}}`, was, kept(was))
	of(t, `{'op':'delete','in':'c','id':'a'}`, was, gone(was))
	both(t, `'ops':{'$inc':{'n':1}}`, was, true, became(was, item("b", 7, `{"n":2}`)))
}

// A store that is nil, of which nothing is said: no call panics. It can be asked for nothing, so every step is ErrArg.
func TestNoStore(t *testing.T) {
	steps := asks(insertA, insertB)
	for mode, want := range map[int]string{
		modeAll:  ` |  | 2 0`,
		modeStop: `{"ok":false,"error":"arg"} |  | 0 -1`,
		modeEach: `{"ok":false,"error":"arg"} {"ok":false,"error":"arg"} |  | 0 -1`,
		3:        ` |  | 2 -1`,
	} {
		if got := tellAll(txn.All(nil, steps, mode, 9)); got != want {
			t.Errorf("mode %d: %s, not %s", mode, got, want)
		}
	}
	if got := tellAll(txn.All(nil, nil, modeAll, 9)); got != ` |  | 0 -1` {
		t.Error(got)
	}
}

// Rule 3: the steps stay as they are, the room behind them too.
func TestStepsStay(t *testing.T) {
	d := newDice(220)
	for range 500 {
		room := slices.Concat(d.requests(6), d.requests(4))
		n := d.Intn(len(room) + 1)
		was := slices.Clone(room)
		txn.Keys(room[:n])
		for _, mode := range []int{modeAll, modeStop, modeEach} {
			play(d.book(), room[:n], mode, 9)
		}
		for i := range room {
			if !slices.Equal(fields(room[i]), fields(was[i])) {
				t.Fatalf("%+v, not %+v", room[i], was[i])
			}
		}
	}
}

// fields tell a request's members that a step may have.
func fields(r api.Request) []string {
	return []string{numbers(r.Op, int(r.Version)), r.In, r.Id, tell(r.Value), tell(r.Ops), tell(r.Filters), tell(r.Fields), tell(jsonval.Listed(jsonval.Flag(r.Upsert), jsonval.Flag(r.New)))}
}

// spoil writes into a list and the room behind it.
func spoil[T any](l []T, with T) {
	l = l[:cap(l)]
	for i := range l {
		l[i] = with
	}
}

// Rule 3: what is answered is new each time: whoever writes into it, or behind it, has no part in what is told next.
func TestAnswersAreNew(t *testing.T) {
	d := newDice(221)
	for range 300 {
		r, steps, b := d.request(), d.requests(6), d.book()
		was, there := d.found()
		o := txn.One(r, was, there, 9)
		var told, keys, all [2]string
		for i := range 2 {
			names, items := txn.Told(r, o, 9)
			told[i] = tellTold(names, items)
			spoil(names, "spoilt")
			spoil(items, val(`"spoilt"`))
			l := txn.Keys(steps)
			keys[i] = strings.Join(l, " ")
			spoil(l, "spoilt")
			results, changes, e, at := txn.All(b.copy(), steps, modeEach, 9)
			all[i] = tellAll(results, changes, e, at)
			spoil(results, val(`"spoilt"`))
			spoil(changes, api.Change{Stamp: 77, In: "spoilt"})
		}
		if told[0] != told[1] || keys[0] != keys[1] || all[0] != all[1] {
			t.Fatalf("%q, %q, %q", told, keys, all)
		}
	}
}

// Rule 3: two answers of which one is written into.
func TestAnswersApart(t *testing.T) {
	_, _, other, _ := outcomes()
	r := ask(modifyA)
	one, items := txn.Told(r, other, 9)
	two, others := txn.Told(r, other, 9)
	spoil(one, "spoilt")
	spoil(items, val(`"spoilt"`))
	if got := tellTold(two, others); got != `version:5 changed:true fresh:false value:{"n":2}` {
		t.Error(got)
	}
}

// Values are never written: what was handed in is as it was.
func TestValuesStay(t *testing.T) {
	d := newDice(222)
	for range 3000 {
		r := d.request()
		was, there := d.found()
		text, lain := strings.Join(fields(r), " "), tellItem(was)
		o := txn.One(r, was, there, 9)
		told := tellOutcome(o)
		txn.Told(r, o, 9)
		if strings.Join(fields(r), " ") != text || tellItem(was) != lain || tellOutcome(o) != told {
			t.Fatalf("%s, not %s", strings.Join(fields(r), " "), text)
		}
	}
}
