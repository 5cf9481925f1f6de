package pipe_test

import (
	"strconv"
	"strings"
	"testing"

	"docket/api"
	"docket/jsonval"
	"docket/pipe"
)

func checkParse(t *testing.T, stages api.Value, want api.Errno, wantAt int) {
	t.Helper()
	if p, e, at := pipe.Parse(stages); e != want || at != wantAt || (p == nil) != (want != api.OK) {
		t.Errorf("Parse(%.300s): %v, %d at %d; want %d at %d", full(stages), p != nil, e, at, want, wantAt)
	}
}

// P7.3: what a stage takes and what not, each as the second of two stages.
func TestParseStages(t *testing.T) {
	for want, texts := range map[api.Errno][]string{
		api.OK: {
			`{"$match":{}}`, `{"$match":{"a":{"$gt":1},"$or":[{"b":1}]}}`,
			`{"$sort":{}}`, `{"$sort":{"a":1,"b.c":-1}}`,
			`{"$skip":0}`, `{"$skip":9223372036854775807}`, `{"$limit":1}`, `{"$limit":9223372036854775807}`,
			`{"$project":{}}`, `{"$project":{"a":1,"b.c":1}}`, `{"$project":{"a":0}}`,
			`{"$set":{"a":1}}`, `{"$set":{"a.b":"$a","a.c":{"$add":[]},"a.bc":{}}}`, `{"$set":{"0":1}}`,
			`{"$unwind":"a"}`, `{"$unwind":"a.0.b"}`,
			`{"$group":{"_id":null}}`, `{"$group":{"_id":{"$add":[1]}}}`, `{"$group":{"_id":"$a","":{"$sum":1}}}`, `{"$group":{"_id":{},"a$":{"$push":"$"},"0":{"$count":{}},"id":{"$first":{"a":1}}}}`,
			`{"$group":{"_id":1,"a":{"$sum":1},"b":{"$min":1},"c":{"$max":1},"d":{"$first":1},"e":{"$last":1},"f":{"$push":1},"g":{"$addToSet":1},"h":{"$avg":1},"i":{"$count":{}}}}`,
			`{"$count":"a"}`, `{"$count":"0"}`, `{"$count":"a b$"}`,
		},
		api.ErrPipe: {
			`null`, `1`, `"$match"`, `[]`, `[{"$match":{}}]`, `{}`, `{"$match":{},"$sort":{}}`, `{"$go":1,"$went":2}`,
		},
		api.ErrStage: {
			`{"$go":1}`, `{"match":{}}`, `{"":{}}`, `{"$Match":{}}`, `{"$":1}`, `{"$sum":1}`, `{"$add":[]}`, `{"$unset":"a"}`, `{"$literal":1}`, `{"a":1}`,
		},
		api.ErrSpec: {
			`{"$skip":-1}`, `{"$skip":"1"}`, `{"$skip":null}`, `{"$skip":true}`, `{"$skip":[1]}`, `{"$skip":{}}`, `{"$skip":-9223372036854775808}`,
			`{"$limit":0}`, `{"$limit":-1}`, `{"$limit":"1"}`, `{"$limit":null}`, `{"$limit":{"$add":[1]}}`,
			`{"$set":{}}`, `{"$set":null}`, `{"$set":[]}`, `{"$set":["a"]}`, `{"$set":"a"}`, `{"$set":1}`,
			`{"$unwind":null}`, `{"$unwind":1}`, `{"$unwind":["a"]}`, `{"$unwind":{"a":1}}`, `{"$unwind":{"path":"a"}}`, `{"$unwind":true}`,
			`{"$group":{}}`, `{"$group":null}`, `{"$group":[]}`, `{"$group":"_id"}`, `{"$group":{"a":{"$sum":1}}}`, `{"$group":{"a":{"$sum":1},"_id":1}}`, `{"$group":{"id":1}}`, `{"$group":{"_ID":1}}`, `{"$group":{"":1,"_id":2}}`, `{"$group":{"a":{"$sum":"$.x"},"_id":"$.x"}}`,
			`{"$group":{"_id":1,"a.b":{"$sum":1}}}`, `{"$group":{"_id":1,".":{"$sum":1}}}`, `{"$group":{"_id":1,"$a":{"$sum":1}}}`, `{"$group":{"_id":1,"$":{"$sum":1}}}`,
			`{"$group":{"_id":1,"a":1}}`, `{"$group":{"_id":1,"a":null}}`, `{"$group":{"_id":1,"a":{}}}`, `{"$group":{"_id":1,"a":["$sum"]}}`, `{"$group":{"_id":1,"a":"$sum"}}`, `{"$group":{"_id":1,"a":{"$sum":1,"$min":1}}}`, `{"$group":{"_id":1,"a":{"$go":1}}}`, `{"$group":{"_id":1,"a":{"sum":1}}}`, `{"$group":{"_id":1,"a":{"$add":[1]}}}`, `{"$group":{"_id":1,"a":{"$literal":1}}}`,
			`{"$group":{"_id":1,"a":{"$count":1}}}`, `{"$group":{"_id":1,"a":{"$count":null}}}`, `{"$group":{"_id":1,"a":{"$count":[]}}}`, `{"$group":{"_id":1,"a":{"$count":{"b":1}}}}`, `{"$group":{"_id":1,"a":{"$count":""}}}`,
			`{"$group":{"_id":1,"a.b":{"$sum":"$.x"}}}`, `{"$group":{"_id":1,"a":{"$go":"$.x"}}}`, `{"$group":{"_id":1,"a":{"$count":"$.x"}}}`, `{"$group":{"_id":1,"a":1,"b":{"$sum":"$.x"}}}`,
			`{"$count":""}`, `{"$count":"a.b"}`, `{"$count":"$a"}`, `{"$count":"$"}`, `{"$count":"."}`, `{"$count":null}`, `{"$count":1}`, `{"$count":{}}`, `{"$count":["a"]}`,
		},
		api.ErrFilter:   {`{"$match":1}`, `{"$match":null}`, `{"$match":[]}`, `{"$match":"a"}`, `{"$match":{"$and":[1]}}`},
		api.ErrOperator: {`{"$match":{"$x":1}}`, `{"$match":{"a":{"$x":1}}}`},
		api.ErrOperand:  {`{"$match":{"$or":[]}}`, `{"$match":{"a":{"$in":1}}}`},
		api.ErrSort:     {`{"$sort":1}`, `{"$sort":null}`, `{"$sort":["a"]}`, `{"$sort":{"a":2}}`, `{"$sort":{"a":1,"b":"$x"}}`},
		api.ErrFields:   {`{"$project":1}`, `{"$project":null}`, `{"$project":[]}`, `{"$project":{"a":"$b"}}`, `{"$project":{"a":2}}`},
		api.ErrBoth:     {`{"$project":{"a":1,"b":0}}`},
		api.ErrMany:     {`{"$sort":{"a":1,"b":1,"c":1,"d":1,"e":1,"f":1,"g":1,"h":1,"i":1}}`},
		api.ErrClash: {
			`{"$project":{"a":1,"a.b":1}}`, `{"$set":{"a":1,"a.b":2}}`, `{"$set":{"a.b":1,"a":2}}`, `{"$set":{"a.b.c":1,"x":2,"a.b.c.d.e":3}}`, `{"$set":{"a":1,"a.b":"$.x"}}`, `{"$set":{"a":1,"a.b":2,"c":"$.x","..":1}}`,
		},
		api.ErrPath: {
			`{"$match":{"a..b":1}}`, `{"$sort":{"a..b":1}}`, `{"$project":{"a.0":1}}`,
			`{"$set":{"":1}}`, `{"$set":{"$a":1}}`, `{"$set":{"a..b":1}}`, `{"$set":{"a":1,"a.":{"$go":1}}}`, `{"$set":{"a":"$.x"}}`, `{"$set":{"a":"$.x","a.b":1}}`, `{"$set":{"a":"$.x","..":1}}`, `{"$set":{"a":1,"..":1,"a.b":2}}`,
			`{"$unwind":""}`, `{"$unwind":"$a"}`, `{"$unwind":"a."}`,
			`{"$group":{"_id":"$.x"}}`, `{"$group":{"_id":"$.x","$a":1}}`, `{"$group":{"_id":1,"a":{"$sum":"$.x"}}}`, `{"$group":{"_id":1,"a":{"$avg":["$.x"]},"$b":1}}`,
		},
		api.ErrExpr: {
			`{"$set":{"a":{"$go":1}}}`, `{"$set":{"a":{"$go":1},"..":1}}`, `{"$set":{"a":{"$add":1},"a.b":1}}`, `{"$set":{"a":1,"b":{"$not":[]}}}`,
			`{"$group":{"_id":{"$go":1}}}`, `{"$group":{"_id":{"$sum":1},"a":1}}`, `{"$group":{"_id":1,"a":{"$push":{"$count":{}}}}}`, `{"$group":{"_id":1,"a":{"$max":{"$add":1}},"b":{"$sum":"$.x"}}}`, `{"$group":{"_id":1,"a":{"$min":{"$add":1}},"b":1}}`,
		},
	} {
		for _, text := range texts {
			stage := parsed(t, text)
			at := 1
			if want == api.OK {
				at = 0
			}
			checkParse(t, jsonval.Listed(object("$skip", jsonval.Of(1)), stage, object("$match", jsonval.Named(nil))), want, at)
			checkParse(t, jsonval.Listed(stage), want, 0)
		}
	}
}

// P7.3: lengths that a text may have.
func TestParseLongTexts(t *testing.T) {
	for n, want := range map[int]api.Errno{api.MaxSegment: api.OK, api.MaxSegment + 1: api.ErrSpec} {
		checkParse(t, jsonval.Listed(object("$count", jsonval.Word(strings.Repeat("s", n)))), want, 0)
	}
	long := strings.Repeat("s", api.MaxSegment+1)
	checkParse(t, jsonval.Listed(object("$unwind", jsonval.Word(long))), api.ErrPath, 0)
	checkParse(t, jsonval.Listed(object("$set", object(long, jsonval.Of(1)))), api.ErrPath, 0)
	// A collector's name need be no segment.
	checkParse(t, jsonval.Listed(object("$group", jsonval.Named([]string{"_id", long}, jsonval.Of(1), object("$sum", jsonval.Of(1))))), api.OK, 0)
	deep := strings.Repeat("a.", api.MaxSegments-1)
	checkParse(t, jsonval.Listed(object("$unwind", jsonval.Word(deep+"a"))), api.OK, 0)
	checkParse(t, jsonval.Listed(object("$unwind", jsonval.Word(deep+"a.a"))), api.ErrPath, 0)
}

// P7.3: the whole, and which stage is told.
func TestParseWhole(t *testing.T) {
	good, bad := object("$skip", jsonval.Of(0)), object("$go", jsonval.Of(0))
	for text, want := range map[string]api.Errno{`[]`: api.OK, `{}`: api.ErrPipe, `null`: api.ErrPipe, `"x"`: api.ErrPipe, `7`: api.ErrPipe, `true`: api.ErrPipe, `{"$match":{}}`: api.ErrPipe, `{"0":{"$match":{}}}`: api.ErrPipe} {
		checkParse(t, parsed(t, text), want, 0)
	}
	checkParse(t, jsonval.Listed(several(api.MaxStages, good)...), api.OK, 0)
	checkParse(t, jsonval.Listed(several(api.MaxStages+1, good)...), api.ErrPipe, 0)
	checkParse(t, jsonval.Listed(several(api.MaxStages+1, bad)...), api.ErrPipe, 0)
	for at := range api.MaxStages {
		l := several(api.MaxStages, good)
		l[at] = bad
		checkParse(t, jsonval.Listed(l...), api.ErrStage, at)
		l[at] = jsonval.Of(1)
		checkParse(t, jsonval.Listed(l...), api.ErrPipe, at)
		l[api.MaxStages-1] = bad
		if at < api.MaxStages-1 {
			checkParse(t, jsonval.Listed(l...), api.ErrPipe, at)
		}
	}
}

// P7.3: each expression has its own nodes.
func TestParseManyNodes(t *testing.T) {
	full, over := jsonval.Listed(several(api.MaxExpr-1, jsonval.Of(1))...), jsonval.Listed(several(api.MaxExpr, jsonval.Of(1))...)
	set := func(a, b api.Value) api.Value {
		return jsonval.Listed(object("$set", jsonval.Named([]string{"a", "b"}, a, b)))
	}
	group := func(id, a, b api.Value) api.Value {
		return jsonval.Listed(object("$group", jsonval.Named([]string{"_id", "a", "b"}, id, object("$push", a), object("$max", b))))
	}
	checkParse(t, set(full, full), api.OK, 0)
	checkParse(t, set(full, over), api.ErrExpr, 0)
	checkParse(t, group(full, full, full), api.OK, 0)
	checkParse(t, group(over, full, full), api.ErrExpr, 0)
	checkParse(t, group(full, over, full), api.ErrExpr, 0)
	checkParse(t, group(full, full, over), api.ErrExpr, 0)
}

// P7.3: what jsonval.Check refuses, told ahead of all else, and at 0.
func TestParseOfOddValues(t *testing.T) {
	one, bad := jsonval.Of(1), object("$go", jsonval.Of(1))
	for want, l := range map[api.Errno][]api.Value{
		api.ErrValue: {
			odd(7, nil), odd(-1, nil), odd(api.Object, []string{"a"}), jsonval.Word("\xff"),
			jsonval.Listed(bad, bad, odd(9, nil)), jsonval.Listed(bad, odd(api.Object, []string{"$skip"})), jsonval.Listed(several(20, odd(9, nil))...), jsonval.Listed(one, object("$count", jsonval.Word("\xff"))),
		},
		api.ErrName:  {jsonval.Listed(bad, odd(api.Object, []string{"$skip", "$skip"}, one, one)), jsonval.Listed(object("$group", odd(api.Object, []string{"_id", "_id"}, one, object("$sum", one))))},
		api.ErrDepth: {nested(api.MaxDepth+1, one), jsonval.Listed(bad, nested(api.MaxDepth, one)), nested(60000, one)},
	} {
		for _, v := range l {
			checkParse(t, v, want, 0)
		}
	}
}

// P7.3: as many members as one likes.
func TestParseManyMembers(t *testing.T) {
	const n = 20000
	names := []string{"_id"}
	items := []api.Value{jsonval.Of(1)}
	for i := range n {
		names, items = append(names, "a"+strconv.Itoa(i)), append(items, object("$sum", jsonval.Of(1)))
	}
	checkParse(t, jsonval.Listed(object("$group", jsonval.Named(names, items...))), api.OK, 0)
	for i := range items {
		items[i] = jsonval.Of(1)
	}
	checkParse(t, jsonval.Listed(object("$set", jsonval.Named(names, items...))), api.OK, 0)
	names[n] = names[7] + ".x"
	checkParse(t, jsonval.Listed(object("$set", jsonval.Named(names, items...))), api.ErrClash, 0)
}

// P7.5.
func TestStagesAndFirst(t *testing.T) {
	for _, c := range []struct {
		stages string
		n      int
		first  string
		there  bool
	}{
		{`[]`, 0, `null`, false},
		{`[{"$match":{}}]`, 1, `{}`, true},
		{`[{"$match":{"a":{"$gt":1}}},{"$match":{"b":2}},{"$count":"c"}]`, 3, `{"a":{"$gt":1}}`, true},
		{`[{"$sort":{"a":1}},{"$match":{"b":2}}]`, 2, `null`, false},
		{`[{"$set":{"$match":1}}]`, 0, ``, false},
		{`[{"$set":{"match":1}}]`, 1, `null`, false},
		{`[{"$count":"c"}]`, 1, `null`, false},
	} {
		p, e, _ := pipe.Parse(parsed(t, c.stages))
		if c.first == "" {
			if e == api.OK {
				t.Errorf("%s is a pipe", c.stages)
			}
			continue
		}
		if v, there := p.First(); full(v) != c.first || there != c.there || p.Stages() != c.n {
			t.Errorf("%s: %d, %s, %t; want %d, %s, %t", c.stages, p.Stages(), full(v), there, c.n, c.first, c.there)
		}
	}
	checkStages := jsonval.Listed(several(api.MaxStages, object("$limit", jsonval.Of(3)))...)
	if n := piped(t, checkStages).Stages(); n != api.MaxStages {
		t.Errorf("%d stages", n)
	}
	var none *pipe.Pipe
	if v, there := none.First(); none.Stages() != 0 || there || !isZero(v) {
		t.Errorf("of nil: %d, %s, %t", none.Stages(), full(v), there)
	}
}
