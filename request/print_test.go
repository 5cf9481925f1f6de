package request_test

import (
	"math"
	"slices"
	"strings"
	"testing"

	"docket/api"
	"docket/jsonval"
	"docket/request"
)

func printed(t *testing.T, r api.Request, want string) {
	t.Helper()
	if got, e := request.Print(r); e != api.OK || got != want {
		t.Errorf("Print(%v): %.300s, %d, want %.300s", r, got, e, want)
	}
}

func notPrinted(t *testing.T, r api.Request) {
	t.Helper()
	if got, e := request.Print(r); e != api.ErrArg || got != "" {
		t.Errorf("Print(%.300v): %.300q, %d, want ErrArg", r, got, e)
	}
}

// TestPrint: P16.2: the members in their order, without those that are what they are when they are not there.
func TestPrint(t *testing.T) {
	for raw, want := range map[string]string{
		`{"fields":{"n":1},"id":"a","in":"c","op":"get"}`:                                                     `{"op":"get","in":"c","id":"a","fields":{"n":1}}`,
		`{"op":"get","in":"c","id":"a","fields":{}}`:                                                          `{"op":"get","in":"c","id":"a"}`,
		`{"op":"insert","value":{"b":1, "a":[ ]},"in":"c"}`:                                                   `{"op":"insert","in":"c","value":{"b":1,"a":[]}}`,
		`{"op":"insert","value":{},"id":"\u0061","in":"c"}`:                                                   `{"op":"insert","in":"c","id":"a","value":{}}`,
		`{"op":"replace","version":1,"value":{},"id":"a","in":"c"}`:                                           `{"op":"replace","in":"c","id":"a","value":{},"version":1}`,
		`{"op":"update","in":"c","id":"a","ops":{"$set":{"n":1}},"filters":null}`:                             `{"op":"update","in":"c","id":"a","ops":{"$set":{"n":1}}}`,
		`{"op":"update","upsert":true,"version":2,"filters":[],"in":"c","id":"a","ops":{"$set":{"n":1}}}`:     `{"op":"update","in":"c","id":"a","ops":{"$set":{"n":1}},"filters":[],"version":2,"upsert":true}`,
		`{"op":"modify","fields":{"n":0},"new":true,"upsert":false,"in":"c","id":"a","ops":{"$inc":{"n":1}}}`: `{"op":"modify","in":"c","id":"a","ops":{"$inc":{"n":1}},"new":true,"fields":{"n":0}}`,
		`{"op":"delete","in":"c","id":"a"}`:                                                                   `{"op":"delete","in":"c","id":"a"}`,
		`{"op":"scan","limit":0,"skip":0,"sort":{},"filter":{},"fields":{},"in":"c"}`:                         `{"op":"scan","in":"c"}`,
		`{"op":"scan","fields":{"n":1},"limit":2,"skip":1,"sort":{"n":1},"filter":{"n":1},"in":"c"}`:          `{"op":"scan","in":"c","filter":{"n":1},"sort":{"n":1},"skip":1,"limit":2,"fields":{"n":1}}`,
		`{"op":"count","filter":{"n":null},"in":"c"}`:                                                         `{"op":"count","in":"c","filter":{"n":null}}`,
		`{"op":"distinct","filter":{},"path":"n","in":"c"}`:                                                   `{"op":"distinct","in":"c","path":"n"}`,
		`{"op":"aggregate","pipe":[],"in":"c"}`:                                                               `{"op":"aggregate","in":"c","pipe":[]}`,
		`{"op":"explain","in":"c"}`:                                                                           `{"op":"explain","in":"c"}`,
		`{"op":"changes","in":"c","limit":5,"after":0}`:                                                       `{"op":"changes","after":0,"limit":5,"in":"c"}`,
		`{"op":"changes","limit":0,"after":-0}`:                                                               `{"op":"changes","after":0}`,
		`{"op":"txn","mode":"all","steps":[` + deletion + `]}`:                                                `{"op":"txn","steps":[` + deletion + `]}`,
		`{"op":"txn","mode":"each","steps":[{"id":"a","in":"c","op":"delete"}, ` + deletion + `]}`:            `{"op":"txn","steps":[` + deletion + `,` + deletion + `],"mode":"each"}`,
		`{"op":"open","batch":0,"in":"c"}`:                                                                    `{"op":"open","in":"c"}`,
		`{"op":"open","batch":256,"fields":{"a":1},"filter":{"b":1},"in":"c"}`:                                `{"op":"open","in":"c","filter":{"b":1},"fields":{"a":1},"batch":256}`,
		`{"cursor":1,"op":"next"}`:                                                                            `{"op":"next","cursor":1}`,
		`{"cursor":9223372036854775807,"op":"close"}`:                                                         `{"op":"close","cursor":9223372036854775807}`,
		`{"op":"create","schema":null,"most":0,"in":"c"}`:                                                     `{"op":"create","in":"c"}`,
		`{"op":"create","schema":{},"most":1,"in":"c"}`:                                                       `{"op":"create","in":"c","most":1,"schema":{}}`,
		`{"in":"c","op":"drop"}`:                                                                              `{"op":"drop","in":"c"}`,
		`{"op":"index","unique":true,"path":"a.b","name":"i","in":"c"}`:                                       `{"op":"index","in":"c","name":"i","path":"a.b","unique":true}`,
		`{"op":"index","unique":false,"path":"a.b","name":"i","in":"c"}`:                                      `{"op":"index","in":"c","name":"i","path":"a.b"}`,
		`{"op":"unindex","name":"i","in":"c"}`:                                                                `{"op":"unindex","in":"c","name":"i"}`,
		` { "op" : "stat" } `:                                                                                 `{"op":"stat"}`,
	} {
		printed(t, taken(t, raw), want)
	}
}

// TestPrintAll: every member, and every one that must be there, of every operation.
func TestPrintAll(t *testing.T) {
	good := ordinary()
	for _, o := range operations {
		for _, names := range [][]string{o.members, o.must} {
			raw := text(o.op, names, good)
			printed(t, taken(t, raw), raw)
		}
	}
}

// TestPrintNoOperation: ErrArg for what is no operation's number.
func TestPrintNoOperation(t *testing.T) {
	for _, op := range []int{0, -1, 22, 100, math.MaxInt, math.MinInt} {
		notPrinted(t, bare(op))
		r := taken(t, txn(deletion, deletion))
		r.Steps[1].Op = op
		notPrinted(t, r)
	}
	notPrinted(t, api.Request{})
	notPrinted(t, api.Request{Op: api.OpGet})
}

// TestPrintOtherMembers: ErrArg, where a field of which the operation has no member is not what it is when the member is not there.
func TestPrintOtherMembers(t *testing.T) {
	good := ordinary()
	for _, o := range operations {
		for _, name := range members {
			r := taken(t, text(o.op, o.must, good))
			lay(t, &r, name, good[name])
			if got, e := request.Print(r); (e == api.OK) != slices.Contains(o.members, name) {
				t.Errorf("%s with %s: %s, %d", o.op, name, got, e)
			}
		}
		for _, name := range []string{"fields", "filter", "sort"} {
			r := taken(t, text(o.op, o.must, good))
			field(&r, name).SetZero()
			notPrinted(t, r)
		}
	}
}

// TestPrintWrongMembers: ErrArg for what a member cannot be, or is only when it is not there and must be.
func TestPrintWrongMembers(t *testing.T) {
	good := ordinary()
	for _, o := range operations {
		for _, name := range o.members {
			for _, wrong := range samples[name].wrong {
				r := taken(t, text(o.op, o.members, good))
				v := value(t, wrong.text)
				switch place := field(&r, name).Addr().Interface().(type) {
				case *string:
					if v.Kind != api.Text || v.Text == "" && !slices.Contains(o.must, name) {
						continue
					}
					*place = v.Text
				case *int64:
					if v.Kind != api.Int || v.Int == 0 && !slices.Contains(o.must, name) {
						continue
					}
					*place = v.Int
				case *api.Value:
					*place = v
				default:
					continue
				}
				notPrinted(t, r)
			}
		}
	}
	for _, mode := range []int{-1, 3, math.MinInt, math.MaxInt} {
		r := taken(t, txn(deletion))
		r.Mode = mode
		notPrinted(t, r)
		r = taken(t, deletion)
		r.Mode = mode
		notPrinted(t, r)
	}
}

// TestPrintSteps: ErrArg, if a step is none, or there are too many or too few.
func TestPrintSteps(t *testing.T) {
	for _, n := range []int{0, 65, 1000} {
		r := taken(t, txn(deletion))
		step := r.Steps[0]
		r.Steps = nil
		for range n {
			r.Steps = append(r.Steps, step)
		}
		notPrinted(t, r)
		if n == 65 {
			r.Steps = r.Steps[:64]
			printed(t, r, txn(strings.Repeat(deletion+",", 63)+deletion))
		}
	}
	good := ordinary()
	for _, o := range operations {
		r := taken(t, txn(deletion))
		r.Steps = append(r.Steps, taken(t, text(o.op, o.must, good)))
		if !slices.Contains([]string{"replace", "update", "delete"}, o.op) {
			notPrinted(t, r)
		}
	}
	for _, spoil := range []func(*api.Request){
		func(s *api.Request) { s.In = "" },
		func(s *api.Request) { s.Id = "" },
		func(s *api.Request) { s.Version = -1 },
		func(s *api.Request) { s.Value = jsonval.Named(nil) },
		func(s *api.Request) { s.Fields = api.Value{} },
		func(s *api.Request) { s.Mode = api.ModeEach },
		func(s *api.Request) { s.Steps = []api.Request{*s} },
		func(s *api.Request) { s.Op = api.OpTxn },
	} {
		r := taken(t, txn(deletion, deletion))
		spoil(&r.Steps[1])
		notPrinted(t, r)
	}
}

// TestPrintNested: requests in requests, where none may be, deeper than any text, and each there twice.
func TestPrintNested(t *testing.T) {
	inner := taken(t, deletion)
	for range 1 << 16 {
		outer := bare(api.OpTxn)
		outer.Steps = []api.Request{inner, inner}
		inner = outer
	}
	for _, op := range []int{api.OpTxn, api.OpDelete, 0} {
		inner.Op = op
		if got, e := request.Print(inner); e != api.ErrArg || got != "" {
			t.Errorf("%d: %.300s, %d", op, got, e)
		}
	}
}

// TestPrintLimits: what would be too long or too deep as a text.
func TestPrintLimits(t *testing.T) {
	r := taken(t, `{"op":"count","in":"c","filter":{"n":""}}`)
	room := api.MaxText - len(`{"op":"count","in":"c","filter":{"n":""}}`)
	r.Filter = jsonval.Named([]string{"n"}, jsonval.Word(strings.Repeat("x", room)))
	printed(t, r, `{"op":"count","in":"c","filter":{"n":"`+strings.Repeat("x", room)+`"}}`)
	r.Filter = jsonval.Named([]string{"n"}, jsonval.Word(strings.Repeat("x", room+1)))
	notPrinted(t, r)

	lists := func(n int) api.Value {
		v := jsonval.Of(1)
		for range n {
			v = jsonval.Listed(v)
		}
		return v
	}
	r.Filter = jsonval.Named([]string{"n"}, lists(62))
	printed(t, r, `{"op":"count","in":"c","filter":{"n":`+strings.Repeat("[", 62)+"1"+strings.Repeat("]", 62)+`}}`)
	r.Filter = jsonval.Named([]string{"n"}, lists(63))
	notPrinted(t, r)
	r.Filter = lists(1 << 16)
	notPrinted(t, r)
}

// TestPrintEmpty: a list that is empty is the same as none.
func TestPrintEmpty(t *testing.T) {
	r := taken(t, `{"op":"stat"}`)
	r.Steps = []api.Request{}
	r.Value.Items, r.Value.Names = []api.Value{}, []string{}
	r.Filter.Items, r.Filter.Names = []api.Value{}, []string{}
	printed(t, r, `{"op":"stat"}`)
}
