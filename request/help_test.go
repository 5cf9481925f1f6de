package request_test

import (
	"math/rand"
	"reflect"
	"slices"
	"strconv"
	"strings"
	"testing"

	"docket/api"
	"docket/jsonval"
	"docket/request"
)

// table is the chapter's table of operations: the op, its number, its members (* must be there).
const table = `
get 1 in* id* fields
insert 2 in* id value*
replace 3 in* id* value* version
update 4 in* id* ops* filters version upsert
modify 5 in* id* ops* filters version upsert new fields
delete 6 in* id* version
scan 7 in* filter sort skip limit fields
count 8 in* filter
distinct 9 in* path* filter
aggregate 10 in* pipe*
explain 11 in* filter
changes 12 after* limit in
txn 13 steps* mode
open 14 in* filter fields batch
next 15 cursor*
close 16 cursor*
create 17 in* most schema
drop 18 in*
index 19 in* name* path* unique
unindex 20 in* name*
stat 21
`

// row is a line of the table.
type row struct {
	op      string
	number  int
	members []string
	must    []string
}

// operations are the rows of the table, members the names of all members, rising.
var (
	operations = readTable()
	members    = allMembers()
)

func readTable() []row {
	var l []row
	for line := range strings.Lines(strings.TrimSpace(table)) {
		words := strings.Fields(line)
		number, _ := strconv.Atoi(words[1])
		r := row{op: words[0], number: number}
		for _, word := range words[2:] {
			name, must := strings.CutSuffix(word, "*")
			r.members = append(r.members, name)
			if must {
				r.must = append(r.must, name)
			}
		}
		l = append(l, r)
	}
	return l
}

func rowOf(t *testing.T, op string) row {
	t.Helper()
	i := slices.IndexFunc(operations, func(r row) bool { return r.op == op })
	if i < 0 {
		t.Fatalf("no operation %s", op)
	}
	return operations[i]
}

func allMembers() []string {
	var l []string
	for _, r := range readTable() {
		l = append(l, r.members...)
	}
	slices.Sort(l)
	return slices.Compact(l)
}

// text is a request's, of op and of the members with their items' texts, in the order of the names.
func text(op string, names []string, items map[string]string) string {
	var b strings.Builder
	b.WriteString(`{"op":` + strconv.Quote(op))
	for _, name := range names {
		b.WriteString("," + strconv.Quote(name) + ":" + items[name])
	}
	return b.String() + "}"
}

// ordinary has a text for each member that is good, and not what stands there if the member is not there.
func ordinary() map[string]string {
	return map[string]string{
		"in": `"c"`, "id": `"a"`, "value": `{"n":1}`, "version": `7`,
		"ops": `{"$set":{"n":1}}`, "filters": `[]`, "upsert": `true`, "new": `true`,
		"fields": `{"n":1}`, "filter": `{"n":{"$gt":1}}`, "sort": `{"n":-1}`, "skip": `2`, "limit": `3`,
		"path": `"n.m"`, "pipe": `[{"$count":"k"}]`, "after": `4`, "steps": `[{"op":"delete","in":"c","id":"a"}]`, "mode": `"each"`,
		"batch": `5`, "cursor": `6`, "most": `8`, "schema": `{"type":"object"}`, "name": `"i"`, "unique": `true`,
	}
}

// bare is a Request of which no member is there.
func bare(op int) api.Request {
	empty := jsonval.Named(nil)
	return api.Request{Op: op, Fields: empty, Filter: empty, Sort: empty}
}

// field is where a member stands in a Request.
func field(r *api.Request, member string) reflect.Value {
	return reflect.ValueOf(r).Elem().FieldByName(strings.ToUpper(member[:1]) + member[1:])
}

// equal holds all fields of two Requests against each other.
func equal(a, b api.Request) bool {
	x, y := reflect.ValueOf(a), reflect.ValueOf(b)
	for i := range x.NumField() {
		switch p := x.Field(i).Interface().(type) {
		case api.Value:
			if !jsonval.Equal(p, y.Field(i).Interface().(api.Value)) {
				return false
			}
		case []api.Request:
			if !slices.EqualFunc(p, y.Field(i).Interface().([]api.Request), equal) {
				return false
			}
		default:
			if p != y.Field(i).Interface() {
				return false
			}
		}
	}
	return true
}

// copied is a Request in memory of its own.
func copied(r api.Request) api.Request {
	v := reflect.ValueOf(&r).Elem()
	for i := range v.NumField() {
		if x, ok := v.Field(i).Interface().(api.Value); ok {
			v.Field(i).Set(reflect.ValueOf(jsonval.Copy(x)))
		}
	}
	steps := r.Steps
	r.Steps = nil
	for _, step := range steps {
		r.Steps = append(r.Steps, copied(step))
	}
	return r
}

func taken(t *testing.T, raw string) api.Request {
	t.Helper()
	r, e, at := request.Parse(raw)
	if e != api.OK || at != -1 {
		t.Fatalf("Parse(%.300s): %d, %d", raw, e, at)
	}
	return r
}

// refused also holds that the Request is the zero one.
func refused(t *testing.T, raw string, e api.Errno, at int) {
	t.Helper()
	r, why, where := request.Parse(raw)
	if why != e || where != at {
		t.Errorf("Parse(%.300s): %d, %d, want %d, %d", raw, why, where, e, at)
	}
	if !reflect.DeepEqual(r, api.Request{}) {
		t.Errorf("Parse(%.300s): %d beside %v", raw, why, r)
	}
}

func value(t *testing.T, text string) api.Value {
	t.Helper()
	v, e, at := jsonval.Parse(text)
	if e != api.OK {
		t.Fatalf("%.300s: %d at %d", text, e, at)
	}
	return v
}

// nest is an object whose jsonval.Depth is n.
func nest(n int) string {
	return strings.Repeat(`{"a":`, n) + `{}` + strings.Repeat(`}`, n)
}

// long is an object of n bytes.
func long(n int) string {
	return `{"a":"` + strings.Repeat("x", n-len(`{"a":""}`)) + `"}`
}

// dice makes requests that are the same in each run.
type dice struct{ *rand.Rand }

func newDice(seed int64) dice { return dice{rand.New(rand.NewSource(seed))} }

func pick[T any](d dice, from ...T) T { return from[d.Intn(len(from))] }

// request is a text that is mostly taken: of members out of the samples, in any order; now and then one too many or too few, or a faulty one.
func (d dice) request(op string, faults int) string {
	if d.Intn(100) < faults {
		return pick(d, `1`, `null`, `[]`, `{}`, `{"op":1}`, `{"op":null,"in":"c"}`, `{"in":"c"}`, `{"op":""}`, `{"op":"go","x":1}`, `{"OP":"get"}`)
	}
	var parts []string
	for _, r := range operations {
		if r.op != op {
			continue
		}
		for _, name := range r.members {
			if d.Intn(100) < faults || !slices.Contains(r.must, name) && d.Intn(2) == 0 {
				continue
			}
			parts = append(parts, strconv.Quote(name)+":"+d.item(name, faults))
		}
	}
	if d.Intn(100) < faults {
		name := pick(d, members...)
		if !slices.ContainsFunc(parts, func(s string) bool { return strings.HasPrefix(s, strconv.Quote(name)) }) {
			parts = append(parts, strconv.Quote(name)+":"+d.item(name, faults))
		}
	}
	parts = append(parts, `"op":`+strconv.Quote(op))
	d.Shuffle(len(parts), func(i, j int) { parts[i], parts[j] = parts[j], parts[i] })
	return "{" + strings.Join(parts, ",") + "}"
}

func (d dice) item(member string, faults int) string {
	if member == "steps" && d.Intn(100) >= faults {
		var l []string
		for range 1 + d.Intn(4) {
			l = append(l, d.step(faults))
		}
		return "[" + strings.Join(l, ",") + "]"
	}
	good, wrong := samples[member].good, samples[member].wrong
	for {
		text := pick(d, good...)
		if d.Intn(100) < faults {
			text = pick(d, wrong...).text
		}
		if len(text) < 1000 || d.Intn(20) == 0 { // great ones take time
			return text
		}
	}
}

// op is one of the operations, often a txn.
func (d dice) op() string {
	if d.Intn(3) == 0 {
		return "txn"
	}
	return pick(d, operations...).op
}

func (d dice) step(faults int) string {
	if d.Intn(100) < faults {
		return d.request(pick(d, operations...).op, faults)
	}
	for {
		s := d.request(pick(d, "insert", "replace", "update", "delete"), faults)
		if faults > 0 || strings.Contains(s, `"id":`) {
			return s
		}
	}
}
