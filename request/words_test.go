package request_test

import (
	"math"
	"slices"
	"strings"
	"testing"

	"docket/api"
	"docket/dotpath"
	"docket/filter"
	"docket/ident"
	"docket/jsonval"
	"docket/pipe"
	"docket/request"
	"docket/shape"
	"docket/update"
)

// The chapter's words, written plainly: what Parse and Print answer is held against what they say.

// parseByWords is P16.1.
func parseByWords(raw string) (api.Request, api.Errno, int) {
	v, e, _ := jsonval.Parse(raw)
	if e != api.OK {
		return api.Request{}, e, -1
	}
	return requestByWords(v, false)
}

// requestByWords is 2 to 5 of P16.1.
func requestByWords(v api.Value, step bool) (api.Request, api.Errno, int) {
	if v.Kind != api.Object {
		return api.Request{}, api.ErrRequest, -1
	}
	items := map[string]api.Value{}
	for i, name := range v.Names {
		items[name] = v.Items[i]
	}
	op, there := items["op"]
	if !there || op.Kind != api.Text {
		return api.Request{}, api.ErrRequest, -1
	}
	at := slices.IndexFunc(operations, func(r row) bool { return r.op == op.Text })
	if at < 0 || step && !slices.Contains([]string{"insert", "replace", "update", "delete"}, op.Text) {
		return api.Request{}, api.ErrOp, -1
	}
	has := operations[at]
	for name := range items {
		if name != "op" && !slices.Contains(has.members, name) {
			return api.Request{}, api.ErrMember, -1
		}
	}
	for _, name := range has.members {
		_, there := items[name]
		if !there && (slices.Contains(has.must, name) || step && op.Text == "insert" && name == "id") {
			return api.Request{}, api.ErrMissing, -1
		}
	}
	r := bare(has.number)
	for _, name := range has.members {
		if item, there := items[name]; there {
			if e, at := memberByWords(&r, name, item, items["filters"]); e != api.OK {
				return api.Request{}, e, at
			}
		}
	}
	return r, api.OK, -1
}

// memberByWords is the table of members; it lays the item into r.
func memberByWords(r *api.Request, name string, v, filters api.Value) (api.Errno, int) {
	e := api.OK
	bad := func(holds bool, why api.Errno) {
		if !holds {
			e = why
		}
	}
	text, number := v.Kind == api.Text, v.Kind == api.Int
	switch name {
	case "in":
		bad(text && ident.Name(v.Text), api.ErrCollection)
	case "id":
		bad(text && ident.Id(v.Text), api.ErrId)
	case "value":
		if e = update.Document(v); e == api.OK {
			bad(jsonval.Depth(v) <= 32, api.ErrDepth)
		}
	case "version":
		bad(number && v.Int >= 1 && v.Int <= 4611686018427387904, api.ErrBad)
	case "ops":
		_, e, _ = update.Parse(v, filters)
	case "filters":
	case "upsert", "new", "unique":
		bad(v.Kind == api.True || v.Kind == api.False, api.ErrBad)
	case "fields":
		_, e = shape.ParseFields(v)
	case "filter":
		_, e = filter.Parse(v)
	case "sort":
		_, e = shape.ParseSort(v)
	case "pipe":
		_, e, _ = pipe.Parse(v)
	case "skip", "limit", "after", "most":
		bad(number && v.Int >= 0, api.ErrBad)
	case "batch":
		bad(number && v.Int >= 0 && v.Int <= 256, api.ErrBad)
	case "cursor":
		bad(number && v.Int >= 1, api.ErrBad)
	case "path":
		if bad(text, api.ErrBad); text {
			_, e, _ = dotpath.Parse(v.Text)
		}
	case "name":
		bad(text && ident.Name(v.Text), api.ErrBad)
	case "schema":
		bad(v.Kind == api.Object || v.Kind == api.Null, api.ErrBad)
	case "mode":
		bad(text && (v.Text == "all" || v.Text == "stop" || v.Text == "each"), api.ErrBad)
	case "steps":
		return stepsByWords(r, v)
	}
	if e == api.OK {
		layByWords(r, name, v)
	}
	return e, -1
}

func stepsByWords(r *api.Request, v api.Value) (api.Errno, int) {
	if v.Kind != api.List || len(v.Items) < 1 || len(v.Items) > 64 {
		return api.ErrBad, -1
	}
	for i, item := range v.Items {
		step, e, _ := requestByWords(item, true)
		if e != api.OK {
			return e, i
		}
		r.Steps = append(r.Steps, step)
	}
	return api.OK, -1
}

// layByWords lays an item that is as it must be into the field of its name.
func layByWords(r *api.Request, name string, v api.Value) {
	switch place := field(r, name).Addr().Interface().(type) {
	case *string:
		*place = v.Text
	case *int64:
		*place = v.Int
	case *bool:
		*place = v.Kind == api.True
	case *api.Value:
		*place = v
	case *int:
		*place = map[string]int{"all": 0, "stop": 1, "each": 2}[v.Text]
	}
}

// sayByWords is the object of P16.2, of a Request that Parse may answer.
func sayByWords(r api.Request) api.Value {
	has := operations[r.Op-1]
	empty := bare(r.Op)
	v := jsonval.Named([]string{"op"}, jsonval.Word(has.op))
	for _, name := range has.members {
		item, absent := itemByWords(&r, name), itemByWords(&empty, name)
		if slices.Contains(has.must, name) || !jsonval.Equal(item, absent) {
			v.Names, v.Items = append(v.Names, name), append(v.Items, item)
		}
	}
	return v
}

func itemByWords(r *api.Request, name string) api.Value {
	switch place := field(r, name).Addr().Interface().(type) {
	case *string:
		return jsonval.Word(*place)
	case *int64:
		return jsonval.Of(*place)
	case *bool:
		return jsonval.Flag(*place)
	case *int:
		return jsonval.Word([]string{"all", "stop", "each"}[*place])
	case *[]api.Request:
		steps := jsonval.Listed()
		for _, step := range *place {
			steps.Items = append(steps.Items, sayByWords(step))
		}
		return steps
	case *api.Value:
		return *place
	}
	return api.Value{}
}

// TestParseByWords: P16.1.
func TestParseByWords(t *testing.T) {
	d := newDice(1)
	told, inStep := map[api.Errno]int{}, map[api.Errno]int{}
	for i := range 30000 {
		raw := d.request(d.op(), i%12)
		r, e, at := request.Parse(raw)
		want, why, where := parseByWords(raw)
		if e != why || at != where || !equal(r, want) {
			t.Fatalf("Parse(%.1000s): %v, %d, %d, want %v, %d, %d", raw, r, e, at, want, why, where)
		}
		told[e]++
		if at >= 0 {
			inStep[e]++
		}
	}
	all := []api.Errno{api.OK, api.ErrRequest, api.ErrOp, api.ErrMember, api.ErrMissing, api.ErrCollection, api.ErrId, api.ErrBad,
		api.ErrDoc, api.ErrDepth, api.ErrUpdate, api.ErrVerb, api.ErrFilters, api.ErrFields, api.ErrFilter, api.ErrSort, api.ErrPipe, api.ErrPath}
	for _, e := range all {
		if told[e] < 10 {
			t.Errorf("error %d is told %d times", e, told[e])
		}
	}
	for _, e := range []api.Errno{api.ErrRequest, api.ErrOp, api.ErrMember, api.ErrMissing, api.ErrCollection, api.ErrId, api.ErrBad, api.ErrDoc, api.ErrDepth, api.ErrUpdate} {
		if inStep[e] < 10 {
			t.Errorf("error %d is told %d times in a step", e, inStep[e])
		}
	}
}

// TestPrintByWords: P16.2 of what Parse takes.
func TestPrintByWords(t *testing.T) {
	d := newDice(2)
	for range 10000 {
		raw := d.request(d.op(), 0)
		r, e, _ := request.Parse(raw)
		if e == api.ErrLong {
			continue
		}
		want, _ := jsonval.Print(sayByWords(r))
		if got, e := request.Print(r); e != api.OK || got != want {
			t.Fatalf("Print of %.1000s: %.1000s, %d, want %.1000s", raw, got, e, want)
		}
	}
}

// TestPrintSpoilt: P16.2 of Requests that are changed in one field, or in one of a step: a text, just if Parse reads it as that.
func TestPrintSpoilt(t *testing.T) {
	d := newDice(3)
	printed, not := 0, 0
	for range 15000 {
		r, e, _ := request.Parse(d.request(d.op(), 0))
		if e != api.OK {
			continue
		}
		d.spoil(&r)
		was := copied(r)
		got, e := request.Print(r)
		if !equal(r, was) {
			t.Fatalf("Print changes %v to %v", was, r)
		}
		switch known := r.Op >= 1 && r.Op <= 21; {
		case e == api.ErrArg && got == "":
			not++
			if known && r.Mode >= 0 && r.Mode <= 2 && stepsAreKnown(r) {
				text, _ := jsonval.Print(sayByWords(r))
				if back, e, _ := parseByWords(text); e == api.OK && equal(back, r) {
					t.Fatalf("Print(%v): ErrArg, but %s is read as that", r, text)
				}
			}
		case e == api.OK:
			printed++
			if back, e, _ := parseByWords(got); e != api.OK || !equal(back, r) {
				t.Fatalf("Print(%v): %s, which is read as %v, %d", r, got, back, e)
			}
		default:
			t.Fatalf("Print(%v): %q, %d", r, got, e)
		}
	}
	if printed < 1000 || not < 1000 {
		t.Errorf("%d printed, %d not", printed, not)
	}
}

func stepsAreKnown(r api.Request) bool {
	return !slices.ContainsFunc(r.Steps, func(s api.Request) bool { return s.Op < 1 || s.Op > 21 || s.Mode < 0 || s.Mode > 2 || len(s.Steps) > 0 })
}

// spoil changes one field to something that may be wrong.
func (d dice) spoil(r *api.Request) {
	if len(r.Steps) > 0 && d.Intn(2) == 0 {
		d.spoil(&r.Steps[d.Intn(len(r.Steps))])
		return
	}
	if d.Intn(12) == 0 {
		r.Op = pick(d, r.Op-1, r.Op+1, 0, -1, 22, 13, 1000, math.MinInt)
		return
	}
	name := pick(d, members...)
	if len(operations) >= r.Op && r.Op > 0 && d.Intn(2) == 0 && len(operations[r.Op-1].members) > 0 {
		name = pick(d, operations[r.Op-1].members...)
	}
	switch place := field(r, name).Addr().Interface().(type) {
	case *string:
		*place = pick(d, "", "c", "C", "a..b", "\xff", strings.Repeat("n", 33), "n.m")
	case *int64:
		*place = pick[int64](d, 0, 1, -1, 2, 256, 257, api.MaxStamp, api.MaxStamp+1, math.MaxInt64, math.MinInt64)
	case *bool:
		*place = !*place
	case *int:
		*place = pick(d, 0, 1, 2, 3, -1, math.MaxInt)
	case *[]api.Request:
		*place = pick(d, nil, []api.Request{}, []api.Request{bare(api.OpStat)}, append(slices.Clone(*place), *r), []api.Request{{}})
	case *api.Value:
		*place = pick(d, api.Value{}, jsonval.Of(1), jsonval.Listed(), jsonval.Named(nil), jsonval.Named([]string{"n"}, jsonval.Of(1)),
			jsonval.Named([]string{"$set"}, jsonval.Named([]string{"n"}, jsonval.Of(1))), api.Value{Kind: 42}, api.Value{Kind: api.Object, Int: 1},
			api.Value{Text: "x"}, jsonval.Named([]string{"\xff"}, jsonval.Of(1)), jsonval.Named([]string{"n", "n"}, jsonval.Of(1), jsonval.Of(1)))
	}
}
