package txn_test

import (
	"fmt"
	"maps"
	"math/rand"
	"slices"
	"strconv"
	"strings"
	"testing"

	"docket/api"
	"docket/jsonval"
	"docket/request"
)

// The numbers as the document has them, so that a test does not follow a number that another one stands for.
const (
	maxFit   = 32
	maxStamp = 1 << 62

	isOK    = 0
	isArg   = 2
	isNone  = 7
	isThere = 8
	isDepth = 17
	isStale = 167

	modeAll  = 0
	modeStop = 1
	modeEach = 2

	inserted = 1
	updated  = 2
	deleted  = 3
)

func TestNumbers(t *testing.T) {
	for _, c := range [][2]int{
		{maxFit, api.MaxFit}, {isArg, int(api.ErrArg)}, {isNone, int(api.ErrNone)}, {isThere, int(api.ErrThere)}, {isDepth, int(api.ErrDepth)}, {isStale, int(api.ErrStale)},
		{modeAll, api.ModeAll}, {modeStop, api.ModeStop}, {modeEach, api.ModeEach}, {inserted, api.ChangeInsert}, {updated, api.ChangeUpdate}, {deleted, api.ChangeDelete},
	} {
		if c[0] != c[1] {
			t.Error(c)
		}
	}
}

func val(text string) api.Value {
	v, e, at := jsonval.Parse(text)
	if e != isOK {
		panic(fmt.Sprint(text, ": ", e, " at ", at))
	}
	return v
}

// ask is the request of a text, in which a ' stands for each ".
func ask(text string) api.Request {
	r, e, at := request.Parse(strings.ReplaceAll(text, "'", `"`))
	if e != isOK {
		panic(fmt.Sprint(text, ": ", e, " at ", at))
	}
	return r
}

func asks(texts ...string) []api.Request {
	var l []api.Request
	for _, text := range texts {
		l = append(l, ask(text))
	}
	return l
}

func item(key string, version int64, text string) api.Item {
	return api.Item{Key: key, Version: version, Value: val(text)}
}

// tell is a value in full, also one that no text says.
func tell(v api.Value) string {
	if text, e := jsonval.Print(v); e == isOK {
		return text
	}
	return fmt.Sprintf("%+v", v)
}

func tellItem(x api.Item) string {
	return x.Key + "@" + strconv.FormatInt(x.Version, 10) + tell(x.Value)
}

func tellItems(l []api.Item) string {
	var all []string
	for _, x := range l {
		all = append(all, tellItem(x))
	}
	return "[" + strings.Join(all, " ") + "]"
}

// tellOutcome has every field.
func tellOutcome(o api.Outcome) string {
	return fmt.Sprint("E ", int(o.E), ", was ", tellItem(o.Was), " ", o.There, ", now ", tellItem(o.Now), " ", o.Is, ", changed ", o.Changed, ", fresh ", o.Fresh)
}

// tellTold is what is told, as a text name:item; it has as many names as items.
func tellTold(names []string, items []api.Value) string {
	if len(names) != len(items) {
		return fmt.Sprint(len(names), " names, ", len(items), " items")
	}
	var all []string
	for i, name := range names {
		all = append(all, name+":"+tell(items[i]))
	}
	return strings.Join(all, " ")
}

func tellValues(l []api.Value) string {
	var all []string
	for _, v := range l {
		all = append(all, tell(v))
	}
	return strings.Join(all, " ")
}

// tellChanges is as 9c/a1: Stamp, In, Id, Kind.
func tellChanges(l []api.Change) string {
	var all []string
	for _, c := range l {
		all = append(all, strconv.FormatInt(c.Stamp, 10)+c.In+"/"+c.Id+strconv.Itoa(c.Kind))
	}
	return strings.Join(all, " ")
}

func numbers(l ...int) string {
	var all []string
	for _, n := range l {
		all = append(all, strconv.Itoa(n))
	}
	return strings.Join(all, " ")
}

// failed is the outcome of an error: all else is zero.
func failed(e api.Errno) api.Outcome { return api.Outcome{E: e} }

// made, kept, became and gone are what else may come of a document.
func made(now api.Item) api.Outcome {
	return api.Outcome{Now: now, Is: true, Changed: true, Fresh: true}
}

func kept(was api.Item) api.Outcome {
	return api.Outcome{Was: was, There: true, Now: was, Is: true}
}

func became(was, now api.Item) api.Outcome {
	return api.Outcome{Was: was, There: true, Now: now, Is: true, Changed: true}
}

func gone(was api.Item) api.Outcome { return api.Outcome{Was: was, There: true, Changed: true} }

// book is a Store of the collections c and d that writes down what it is asked, and answers an error where it is told to.
type book struct {
	items map[string]api.Item // by their collection, /, id
	asked []string
	wrong map[int]api.Errno // by the number of what is asked
}

func newBook(keys ...string) *book {
	b := &book{items: map[string]api.Item{}}
	for i, key := range keys {
		_, id, _ := strings.Cut(key, "/")
		b.items[key] = item(id, int64(i)+1, `{"n":`+strconv.Itoa(i)+`}`)
	}
	return b
}

func (b *book) copy() *book {
	return &book{items: maps.Clone(b.items), wrong: maps.Clone(b.wrong)}
}

func (b *book) ask(text string) api.Errno {
	b.asked = append(b.asked, text)
	return b.wrong[len(b.asked)-1]
}

func (b *book) Item(in, id string) (api.Item, bool, api.Errno) {
	if e := b.ask("Item " + in + " " + id); e != isOK {
		return item("x", 99, `{"wrong":1}`), true, e // whoever is told an error looks at nothing else
	}
	if in != "c" && in != "d" {
		return api.Item{}, false, api.ErrColl
	}
	x, there := b.items[in+"/"+id]
	return x, there, isOK
}

func (b *book) Commit(in string, was, now []api.Item) api.Errno {
	if e := b.ask("Commit " + in + " " + tellItems(was) + " " + tellItems(now)); e != isOK {
		return e
	}
	for i, x := range was {
		delete(b.items, in+"/"+x.Key)
		was[i] = item("spoilt", 77, "1") // the lists are the store's
	}
	for i, x := range now {
		b.items[in+"/"+x.Key] = x
		now[i] = item("spoilt", 77, "1")
	}
	return isOK
}

// state is all that a book has.
func (b *book) state() string {
	var all []string
	for _, key := range slices.Sorted(maps.Keys(b.items)) {
		all = append(all, key+"="+tellItem(b.items[key]))
	}
	return strings.Join(all, " ")
}

// dice makes what is the same in each run, of few parts, so that much of it meets.
type dice struct{ *rand.Rand }

func newDice(seed int64) dice { return dice{rand.New(rand.NewSource(seed))} }

func pick[T any](d dice, from ...T) T { return from[d.Intn(len(from))] }

func (d dice) one(in int) bool { return d.Intn(in) == 0 }

func (d dice) value() api.Value {
	return val(pick(d, `{}`, `{"n":1}`, `{"n":2}`, `{"n":1,"l":[1,2]}`, `{"l":[{"q":1},{"q":2}],"n":3}`, `{"n":"x"}`, `{"s":true,"n":1}`))
}

// ops are such as take, such as fail at some documents, and such as are none.
func (d dice) ops() (api.Value, api.Value) {
	filters := "null"
	ops := pick(d, `{"$inc":{"n":1}}`, `{"$inc":{"n":0}}`, `{"$set":{"n":1}}`, `{"$set":{"n":2}}`, `{"$unset":{"n":1}}`, `{"$setOnInsert":{"s":true}}`, `{"$push":{"l":3}}`, `{"$set":{"l.$[].q":7}}`, `{"$set":{"l.$[e].q":7}}`, `{"$set":{"deep":`+nest(maxFit+1)+`}}`, `{"$set":{"n.x":1}}`)
	if strings.Contains(ops, "$[e]") {
		filters = `[{"e.q":{"$gt":1}}]`
	}
	if d.one(12) {
		filters = pick(d, `[{"e.q":1}]`, `[]`, `7`, `null`)
	}
	if d.one(12) {
		ops = pick(d, `{}`, `7`, `null`, `{"$go":{"n":1}}`, `{"$set":{"a":1,"a.b":2}}`, `{"$pop":{"l":2}}`)
	}
	return val(ops), val(filters)
}

// nest is a list of that depth.
func nest(depth int) string { return strings.Repeat("[", depth) + strings.Repeat("]", depth) }

func (d dice) op() int {
	if d.one(15) {
		return pick(d, 0, -1, 22, 1<<40, api.OpGet, api.OpScan, api.OpTxn, api.OpCreate, api.OpStat)
	}
	return pick(d, api.OpInsert, api.OpReplace, api.OpUpdate, api.OpModify, api.OpDelete)
}

// request has every member that a changing one may have, whatever its operation is.
func (d dice) request() api.Request {
	r := api.Request{Op: d.op(), In: pick(d, "c", "c", "c", "d"), Id: pick(d, "a", "b", "x/y"), Value: d.value(), Upsert: d.one(2), New: d.one(2)}
	r.Version = pick[int64](d, 0, 0, 0, 1, 2, 3, 9, 10, -1, maxStamp)
	r.Ops, r.Filters = d.ops()
	r.Fields = val(pick(d, `{}`, `{"n":1}`, `{"n":0}`, `{"l.q":1}`, `null`, `{"n":2}`, `{"n":1,"l":0}`))
	if d.one(20) {
		r.In = pick(d, "e", "")
	}
	return r
}

func (d dice) requests(most int) []api.Request {
	var l []api.Request
	for range d.Intn(most + 1) {
		l = append(l, d.request())
	}
	return l
}

// found is a document, or none; now and then none with an Item that means nothing.
func (d dice) found() (api.Item, bool) {
	x := api.Item{Key: pick(d, "a", "b"), Version: pick[int64](d, 1, 2, 3, 9), Value: d.value()}
	there := !d.one(3)
	if !there && d.one(2) {
		x = api.Item{}
	}
	return x, there
}

func (d dice) book() *book {
	b := newBook()
	for _, key := range []string{"c/a", "c/b", "c/x/y", "d/a"} {
		if d.one(2) {
			_, id, _ := strings.Cut(key, "/")
			b.items[key] = api.Item{Key: id, Version: pick[int64](d, 1, 2, 3), Value: d.value()}
		}
	}
	if d.one(3) {
		b.wrong = map[int]api.Errno{d.Intn(12): pick[api.Errno](d, api.ErrUnique, api.ErrSchema, api.ErrFull, 12345)}
	}
	return b
}
