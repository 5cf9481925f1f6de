package request_test

import (
	"slices"
	"strings"
	"testing"

	"docket/api"
	"docket/jsonval"
)

// TestExamples: 16.5, 1 and 2.
func TestExamples(t *testing.T) {
	want := bare(api.OpGet)
	want.In, want.Id = "c", "a"
	for _, raw := range []string{
		`{"op":"get","in":"c","id":"a"}`,
		` { "op" : "get" , "id" : "a" , "in" : "\u0063" } ` + "\n",
	} {
		if r := taken(t, raw); !equal(r, want) {
			t.Errorf("%s: %v", raw, r)
		}
	}
	for raw, e := range map[string]api.Errno{
		`{"in":"c"}`:                                         api.ErrRequest,
		`{"op":"go"}`:                                        api.ErrOp,
		`{"op":"get","in":"c","id":"a","x":1}`:               api.ErrMember,
		`{"op":"get","in":"c"}`:                              api.ErrMissing,
		`{"op":"get","in":"C","id":""}`:                      api.ErrCollection,
		`{"op":"get","in":"c","id":""}`:                      api.ErrId,
		`{"op":"insert","in":"c","value":1}`:                 api.ErrDoc,
		`{"op":"scan","in":"c","filter":{"$x":1},"skip":-1}`: api.ErrOperator,
		`{"op":"scan","in":"c","skip":-1}`:                   api.ErrBad,
	} {
		refused(t, raw, e, -1)
	}
}

// TestNoRequest: P16.1, 1 and 2. The place of a fault in the text is not told, in a step's text neither.
func TestNoRequest(t *testing.T) {
	for e, raws := range map[api.Errno][]string{
		api.ErrShort:  {"", "{", `{"op":"stat"`},
		api.ErrToken:  {"x", "\xff", `{op:"stat"}`},
		api.ErrInt:    {"1.5", `{"op":"next","cursor":1.0}`},
		api.ErrRange:  {`{"op":"next","cursor":9223372036854775808}`},
		api.ErrTail:   {`{"op":"stat"} x`},
		api.ErrName:   {`{"op":"stat","op":"stat"}`, `{"op":"get","in":"c","id":"a","in":"c"}`},
		api.ErrEscape: {`{"op":"txn","steps":[{"op":"insert"},{"op":"\q"}]}`},
		api.ErrUtf:    {`"` + "\xff"},
		api.ErrDepth:  {strings.Repeat("[", 65)},
		api.ErrLong:   {`{"op":"stat"}` + strings.Repeat(" ", api.MaxText)},
		api.ErrRequest: {"1", "null", "true", `"op"`, "[]", `["op","get"]`, `[{"op":"stat"}]`, "{}", `{"Op":"stat"}`, `{"x":{"op":"stat"}}`,
			`{"op":null}`, `{"op":1}`, `{"op":true}`, `{"op":["stat"]}`, `{"op":{"op":"stat"}}`, `{"op":21,"x":1}`},
		api.ErrOp: {`{"op":""}`, `{"op":"Stat"}`, `{"op":"stat "}`, `{"op":"sta"}`, `{"op":"21"}`, `{"op":"op"}`, `{"op":"get\u0000","x":1}`},
	} {
		for _, raw := range raws {
			refused(t, raw, e, -1)
		}
	}
	longest := `{"op":"stat"}` + strings.Repeat(" ", api.MaxText-len(`{"op":"stat"}`))
	if r := taken(t, longest); !equal(r, bare(api.OpStat)) {
		t.Errorf("a text of MaxText bytes: %v", r)
	}
}

// TestOperations: what an operation has, and what stands where a member is not there.
func TestOperations(t *testing.T) {
	if len(operations) != 21 || len(members) != 24 {
		t.Fatalf("%d operations, %d members", len(operations), len(members))
	}
	good := ordinary()
	for i, o := range operations {
		if o.number != i+1 {
			t.Errorf("%s: %d", o.op, o.number)
		}
		for _, names := range [][]string{o.members, o.must} {
			want := bare(o.number)
			for _, name := range names {
				lay(t, &want, name, good[name])
			}
			if r := taken(t, text(o.op, names, good)); !equal(r, want) {
				t.Errorf("%s: %v, want %v", text(o.op, names, good), r, want)
			}
		}
	}
}

// lay lays an item, of which nothing is asked, into a Request.
func lay(t *testing.T, r *api.Request, member, item string) {
	t.Helper()
	if member != "steps" {
		layByWords(r, member, value(t, item))
		return
	}
	for _, x := range value(t, item).Items {
		step, _, _ := requestByWords(x, true)
		r.Steps = append(r.Steps, step)
	}
}

// TestMemberTooMany: ErrMember, for every member that an operation has not, ahead of one that is missing, and whatever it is.
func TestMemberTooMany(t *testing.T) {
	good := ordinary()
	others := append(slices.Clone(members), "", "x", "Op", "op ", "ok", "at", "In", "iD", "number")
	for _, o := range operations {
		for _, name := range others {
			if slices.Contains(o.members, name) {
				continue
			}
			for _, item := range []string{"null", "1", "{}", `{"op":"stat"}`} {
				good[name] = item
				refused(t, text(o.op, append(slices.Clone(o.members), name), good), api.ErrMember, -1)
				refused(t, text(o.op, append([]string{name}, o.members...), good), api.ErrMember, -1)
				refused(t, text(o.op, []string{name}, good), api.ErrMember, -1)
			}
			good = ordinary()
		}
	}
}

// TestMemberMissing: ErrMissing, ahead of what another member cannot be.
func TestMemberMissing(t *testing.T) {
	good, faulty := ordinary(), ordinary()
	for name := range faulty {
		faulty[name] = samples[name].wrong[0].text
	}
	for _, o := range operations {
		for _, name := range o.must {
			without := slices.DeleteFunc(slices.Clone(o.members), func(other string) bool { return other == name })
			refused(t, text(o.op, without, good), api.ErrMissing, -1)
			refused(t, text(o.op, without, faulty), api.ErrMissing, -1)
			refused(t, text(o.op, nil, nil), api.ErrMissing, -1)
		}
		for _, name := range o.members {
			without := slices.DeleteFunc(slices.Clone(o.members), func(other string) bool { return other == name })
			if !slices.Contains(o.must, name) {
				taken(t, text(o.op, without, good))
			}
		}
	}
}

// TestMembers: what a member must be, in each operation that has it, and its error if it is not.
func TestMembers(t *testing.T) {
	for _, o := range operations {
		for _, name := range o.members {
			items := ordinary()
			for _, item := range samples[name].good {
				items[name] = item
				want := bare(o.number)
				for _, name := range o.members {
					lay(t, &want, name, items[name])
				}
				if r := taken(t, text(o.op, o.members, items)); !equal(r, want) {
					t.Errorf("%.300s: %v", text(o.op, o.members, items), r)
				}
			}
			for _, wrong := range samples[name].wrong {
				items[name] = wrong.text
				refused(t, text(o.op, o.members, items), wrong.e, -1)
			}
		}
	}
}

// TestFirstError: of two members that are wrong the one that stands first in the table of operations is told, wherever they stand in the text.
func TestFirstError(t *testing.T) {
	for _, o := range operations {
		for i, first := range o.members {
			for _, second := range o.members[i+1:] {
				if first == "ops" && second == "filters" || first == "filters" {
					continue // filters are asked at ops
				}
				items := ordinary()
				a, b := samples[first].wrong[0], samples[second].wrong[0]
				items[first], items[second] = a.text, b.text
				refused(t, text(o.op, o.members, items), a.e, -1)
				backwards := slices.Clone(o.members)
				slices.Reverse(backwards)
				refused(t, text(o.op, backwards, items), a.e, -1)
				items[first] = ordinary()[first]
				refused(t, text(o.op, backwards, items), b.e, -1)
			}
		}
	}
}

// TestDocuments: a value's bounds, and the order of its errors.
func TestDocuments(t *testing.T) {
	lists := func(n int) string { return strings.Repeat("[", n) + "1" + strings.Repeat("]", n) }
	for _, op := range []string{"insert", "replace"} {
		for item, e := range map[string]api.Errno{
			nest(api.MaxFit):                                  api.OK,
			nest(api.MaxFit + 1):                              api.ErrDepth,
			`{"a":` + lists(api.MaxFit-1) + `}`:               api.OK,
			`{"a":` + lists(api.MaxFit) + `}`:                 api.ErrDepth,
			lists(api.MaxFit + 1):                             api.ErrDoc,
			long(api.MaxDoc):                                  api.OK,
			long(api.MaxDoc + 1):                              api.ErrBig,
			`{"a" :` + strings.Repeat(" ", api.MaxDoc) + `1}`: api.OK,
			`{"a":` + nest(api.MaxFit) + `,"b":"` + strings.Repeat("x", api.MaxDoc) + `"}`: api.ErrBig,
		} {
			items := ordinary()
			items["value"] = item
			raw := text(op, rowOf(t, op).members, items)
			if e != api.OK {
				refused(t, raw, e, -1)
			} else if r := taken(t, raw); !jsonval.Equal(r.Value, value(t, item)) {
				t.Errorf("%.300s: %v", raw, r)
			}
		}
	}
}

// TestFilters: ops and filters are asked once, at ops: ahead of what stands behind ops, and behind what stands ahead of it.
func TestFilters(t *testing.T) {
	for _, op := range []string{"update", "modify"} {
		head := `{"op":"` + op + `","in":"c","id":"a",`
		r := taken(t, head+`"filters":[{"e":2}],"ops":{"$set":{"l.$[e]":1}}}`)
		want := bare(rowOf(t, op).number)
		want.In, want.Id = "c", "a"
		want.Ops, want.Filters = value(t, `{"$set":{"l.$[e]":1}}`), value(t, `[{"e":2}]`)
		if !equal(r, want) {
			t.Errorf("%s: %v", op, r)
		}
		for rest, e := range map[string]api.Errno{
			`"ops":{"$set":{"l.$[e]":1}}}`:                                          api.ErrFilters,
			`"ops":{"$set":{"l.$[e]":1}},"filters":null}`:                           api.ErrFilters,
			`"ops":{"$set":{"l.$[e]":1}},"filters":[]}`:                             api.ErrFilters,
			`"ops":{"$set":{"l.$[e]":1}},"filters":[{"e":2},{"e":2}]}`:              api.ErrFilters,
			`"ops":{"$set":{"l.$[e]":1}},"filters":[{"e":{"$x":1}}]}`:               api.ErrOperator,
			`"ops":{"$set":{"l":1}},"filters":[{"e":2}]}`:                           api.ErrFilters,
			`"ops":{"$set":{"l":1}},"filters":1,"version":0,"upsert":1}`:            api.ErrFilters,
			`"ops":{"$go":{}},"filters":1,"version":0}`:                             api.ErrVerb,
			`"filters":1,"ops":{"$go":{}},"upsert":0}`:                              api.ErrVerb,
			`"filters":[{"e":2}],"version":0,"ops":{"$set":{"l.$[e]":1}}}`:          api.ErrBad,
			`"filters":[{"e":2}],"upsert":0,"ops":{"$set":{"l.$[e]":1}}}`:           api.ErrBad,
			`"filters":[{"e":2}]}`:                                                  api.ErrMissing,
			`"upsert":0,"version":0,"filters":[{"e":2}],"ops":{"$set":{"l.$[]":}}}`: api.ErrToken,
		} {
			refused(t, head+rest, e, -1)
		}
		refused(t, `{"op":"`+op+`","in":"c","id":"","filters":1,"ops":1}`, api.ErrId, -1)
	}
}
