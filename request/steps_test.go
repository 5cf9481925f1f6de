package request_test

import (
	"slices"
	"strconv"
	"strings"
	"testing"

	"docket/api"
	"docket/request"
)

const deletion = `{"op":"delete","in":"c","id":"a"}`

// txn is a request's text, of these steps.
func txn(steps ...string) string { return `{"op":"txn","steps":[` + strings.Join(steps, ",") + `]}` }

// TestStepsExamples: 16.5, 3.
func TestStepsExamples(t *testing.T) {
	refused(t, `{"op":"txn","steps":[{"op":"insert","in":"c","id":"a","value":{}},{"op":"get","in":"c","id":"a"}]}`, api.ErrOp, 1)
	refused(t, `{"op":"txn","steps":[]}`, api.ErrBad, -1)
	refused(t, `{"op":"txn","steps":[{"op":"insert","in":"c","value":{}}]}`, api.ErrMissing, 0)
}

// TestSteps: a step is read as if it were the whole.
func TestSteps(t *testing.T) {
	good := ordinary()
	var steps []string
	want := bare(api.OpTxn)
	for _, op := range []string{"insert", "replace", "update", "delete"} {
		o := rowOf(t, op)
		least := slices.DeleteFunc(slices.Clone(o.members), func(name string) bool { return name != "id" && !slices.Contains(o.must, name) })
		for _, names := range [][]string{o.members, least} {
			raw := text(op, names, good)
			steps = append(steps, raw)
			want.Steps = append(want.Steps, taken(t, raw))
		}
	}
	if r := taken(t, txn(steps...)); !equal(r, want) {
		t.Errorf("%s: %v", txn(steps...), r)
	}
}

func TestHowManySteps(t *testing.T) {
	for _, n := range []int{1, 2, 63, 64} {
		if r := taken(t, txn(slices.Repeat([]string{deletion}, n)...)); len(r.Steps) != n {
			t.Errorf("%d steps: %d", n, len(r.Steps))
		}
	}
	for _, n := range []int{0, 65, 66, 1000} {
		refused(t, txn(slices.Repeat([]string{deletion}, n)...), api.ErrBad, -1)
		refused(t, txn(slices.Repeat([]string{"1"}, n)...), api.ErrBad, -1)
	}
}

// TestModes: the modes' numbers; and steps are asked ahead of the mode.
func TestModes(t *testing.T) {
	for mode, number := range map[string]int{"all": api.ModeAll, "stop": api.ModeStop, "each": api.ModeEach} {
		if r := taken(t, `{"mode":"`+mode+`","op":"txn","steps":[`+deletion+`]}`); r.Mode != number || len(r.Steps) != 1 {
			t.Errorf("%s: %v", mode, r)
		}
	}
	if r := taken(t, txn(deletion)); r.Mode != api.ModeAll {
		t.Errorf("without a mode: %v", r)
	}
	refused(t, `{"op":"txn","mode":"x","steps":[`+deletion+`]}`, api.ErrBad, -1)
	refused(t, `{"op":"txn","mode":"x","steps":[`+deletion+`,{"op":"go"}]}`, api.ErrOp, 1)
	refused(t, `{"op":"txn","mode":"each"}`, api.ErrMissing, -1)
	refused(t, `{"op":"txn","mode":"each","steps":[1],"x":1}`, api.ErrMember, -1)
}

// TestStepErrors: each error of P16.1 in a step, with its number, and their order; the first step that has one is told.
func TestStepErrors(t *testing.T) {
	for step, e := range map[string]api.Errno{
		`1`:                          api.ErrRequest,
		`null`:                       api.ErrRequest,
		`[]`:                         api.ErrRequest,
		`{}`:                         api.ErrRequest,
		`"delete"`:                   api.ErrRequest,
		`{"op":6}`:                   api.ErrRequest,
		`{"in":"c","id":"a","x":1}`:  api.ErrRequest,
		`{"op":"go"}`:                api.ErrOp,
		`{"op":"Delete"}`:            api.ErrOp,
		`{"op":"","x":1}`:            api.ErrOp,
		`{"op":"delete","x":1}`:      api.ErrMember,
		`{"op":"delete","value":{}}`: api.ErrMember,
		`{"op":"insert","in":"","id":"a","value":{},"version":1}`: api.ErrMember,
		`{"op":"insert","value":1,"upsert":true}`:                 api.ErrMember,
		`{"op":"update","in":"c","id":"a","ops":1,"new":true}`:    api.ErrMember,
		`{"op":"delete"}`:                                                api.ErrMissing,
		`{"op":"delete","in":"c","version":0}`:                           api.ErrMissing,
		`{"op":"insert","in":"C","value":1}`:                             api.ErrMissing,
		`{"op":"insert","id":"a","value":{}}`:                            api.ErrMissing,
		`{"op":"insert","in":"c","id":"a"}`:                              api.ErrMissing,
		`{"op":"update","in":"c","id":"a","filters":[]}`:                 api.ErrMissing,
		`{"op":"delete","in":"C","id":""}`:                               api.ErrCollection,
		`{"op":"delete","in":"c","id":"","version":0}`:                   api.ErrId,
		`{"op":"insert","in":"c","id":null,"value":{}}`:                  api.ErrId,
		`{"op":"delete","in":"c","id":"a","version":0}`:                  api.ErrBad,
		`{"op":"insert","in":"c","id":"a","value":[]}`:                   api.ErrDoc,
		`{"op":"insert","in":"c","id":"a","value":` + nest(33) + `}`:     api.ErrDepth,
		`{"op":"replace","in":"c","id":"a","value":` + long(16385) + `}`: api.ErrBig,
		`{"op":"update","in":"c","id":"a","ops":{"$go":{}},"upsert":1}`:  api.ErrVerb,
		`{"op":"update","in":"c","id":"a","ops":{"$set":{"l.$[e]":1}}}`:  api.ErrFilters,
		`{"op":"update","in":"c","id":"a","ops":{"$set":{"l.$[e]":1},` +
			`"$inc":{"a..b":1}},"filters":[{"e":1}],"upsert":"no"}`: api.ErrPath,
		`{"op":"update","in":"c","id":"a","ops":{"$set":{"l":1}},"upsert":1}`: api.ErrBad,
	} {
		refused(t, txn(step), e, 0)
		refused(t, txn(deletion, deletion, step), e, 2)
		refused(t, txn(deletion, step, `1`, `{"op":"go"}`), e, 1)
		refused(t, txn(step, step), e, 0)
		last := append(slices.Repeat([]string{deletion}, 63), step)
		refused(t, txn(last...), e, 63)
	}
}

// TestStepOperations: ErrOp for all operations but four, ahead of members and of what is missing.
func TestStepOperations(t *testing.T) {
	good := ordinary()
	for _, o := range operations {
		raw := text(o.op, o.members, good)
		if slices.Contains([]string{"insert", "replace", "update", "delete"}, o.op) {
			taken(t, txn(raw))
			refused(t, txn(text(o.op, nil, nil)), api.ErrMissing, 0)
			continue
		}
		refused(t, txn(deletion, raw), api.ErrOp, 1)
		refused(t, txn(text(o.op, nil, nil)), api.ErrOp, 0)
		refused(t, txn(`{"op":"`+o.op+`","x":1}`), api.ErrOp, 0)
	}
	refused(t, txn(txn(deletion)), api.ErrOp, 0)
	refused(t, txn(deletion, txn(`1`)), api.ErrOp, 1)
}

// TestStepsOfTheirOwn: the Steps that are answered are new each time, spare room too.
func TestStepsOfTheirOwn(t *testing.T) {
	for n := range 9 {
		raw := txn(slices.Repeat([]string{deletion}, n+1)...)
		a, b := taken(t, raw), taken(t, raw)
		for i := range a.Steps[:cap(a.Steps)] {
			a.Steps[:cap(a.Steps)][i] = api.Request{Op: 99}
		}
		if want := taken(t, raw); !equal(b, want) || len(want.Steps) != n+1 {
			t.Errorf("%d steps: %v", n+1, b)
		}
	}
}

// TestStamped: P16.3.
func TestStamped(t *testing.T) {
	stamped := []string{"insert", "replace", "update", "modify", "delete", "txn", "create", "drop", "index", "unindex"}
	for _, o := range operations {
		if request.Stamped(o.number) != slices.Contains(stamped, o.op) {
			t.Errorf("%s: %v", o.op, request.Stamped(o.number))
		}
	}
	for _, op := range []int{0, -1, 22, 23, 100, -1 << 63, 1<<63 - 1} {
		if request.Stamped(op) {
			t.Error("Stamped(" + strconv.Itoa(op) + ")")
		}
	}
}
