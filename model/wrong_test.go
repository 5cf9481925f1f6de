package model_test

import (
	"math"
	"strings"
	"testing"

	"docket/api"
	"docket/catalog"
	"docket/model"
	"docket/watch"
)

// noValues are such that no text says, and such as are no queries, fields, orders, pipes.
func noValues() []api.Value {
	deep := api.Value{}
	for range 100 {
		deep = api.Value{Kind: api.List, Items: []api.Value{deep}}
	}
	return []api.Value{
		{}, {Kind: 7}, {Kind: -1}, {Kind: api.Int, Int: 5, Text: "x"}, {Kind: api.Text, Text: "\xff"}, {Kind: api.Object, Names: []string{"t"}}, {Kind: api.Object, Items: make([]api.Value, 1)},
		{Kind: api.Object, Names: []string{"t", "t"}, Items: make([]api.Value, 2)}, {Kind: api.List, Items: []api.Value{{Kind: 9}}}, deep, val("{}"), val("[]"), val("{'n':{'$gt':1}}"), val("[{'$match':{'n':1}}]"), val("{'$inc':{'n':1}}"),
	}
}

func (d dice) text() string {
	return pick(d, "", "c", "d", "a", "c/a", "/", "n", "n.t", "..", "\xff\x00", "C", strings.Repeat("x", 100))
}

func (d dice) number() int64 {
	return pick[int64](d, 0, 1, 2, 7, -1, math.MaxInt64, math.MinInt64, maxStamp)
}

// request is one made by hand, such as Parse may never answer.
func (d dice) request(below int, values []api.Value) api.Request {
	v := func() api.Value { return pick(d, values...) }
	r := api.Request{Op: d.Intn(25) - 1, In: d.text(), Id: d.text(), Value: v(), Version: d.number(), Ops: v(), Filters: v(), Upsert: d.one(2), New: d.one(2), Fields: v(), Filter: v(), Sort: v(), Skip: d.number(), Limit: d.number(),
		Path: d.text(), Pipe: v(), After: d.number(), Mode: d.Intn(5) - 1, Batch: d.number(), Cursor: d.number(), Most: d.number(), Schema: v(), Name: d.text(), Unique: d.one(2)}
	for range d.Intn(below + 1) {
		r.Steps = append(r.Steps, d.request(below-1, values))
	}
	return r
}

// Rule 1: every call ends, and none panics, whatever it is given.
func TestWrongRequests(t *testing.T) {
	full := stocked(t, three(), "x:n!", "y:t")
	log, values := logOf(t, 3, 1, 2, 3, 4), noValues()
	for seed := range int64(6000) {
		d := newDice(seed)
		r, stamp := d.request(3, values), d.number()
		c := pick(d, nil, catalog.New(), full)
		items := pick(d, nil, three(), keyed(three()), []api.Item{{}, {Key: "\xff", Value: values[5]}, {Key: "c/a", Value: values[9]}, {Key: "c/a"}})
		model.Named(r, int(d.number()), d.number())
		model.Keys(r)
		model.Wanted(c, r)
		if reply := model.Read(c, r, stamp, items, pick(d, nil, log, &watch.Log{})); !strings.HasPrefix(reply, `{"ok":`) {
			t.Fatal(reply)
		}
		x := model.Apply(c, r, items, stamp)
		if !strings.HasPrefix(x.Reply, `{"ok":`) {
			t.Fatal(x.Reply)
		}
		if strings.HasPrefix(x.Reply, `{"ok":false`) && x.Cat == nil && (x.Edits != nil || x.Changes != nil) {
			t.Fatal(tellEffect(x))
		}
	}
	for _, v := range noValues() {
		model.Page([]api.Doc{{Id: "\xff", Value: v}}, true)
	}
	model.Opened(math.MinInt64, math.MaxInt64)
}

// Rule 1, of texts.
func TestWrongTexts(t *testing.T) {
	s := stepped(t, empty(t, 5), "{'op':'create','in':'c'}", "{'op':'insert','in':'c','id':'a','value':{'n':1}}")
	d := newDice(1)
	for range 20000 {
		raw := []byte(d.raw(s.Stamp()))
		for range d.Intn(3) {
			if len(raw) > 0 {
				raw[d.Intn(len(raw))] = pick[byte](d, '{', '}', '"', ',', ':', '0', 'x', 0, 0xff, '[')
			}
		}
		next, reply := s.Step(int(d.number()), string(raw))
		if next == nil || val(reply).Names[0] != "ok" {
			t.Fatalf("%q: %s", raw, reply)
		}
		if d.one(3) {
			s = next
		}
	}
}
