package filter_test

import (
	"strconv"
	"strings"
	"testing"

	"docket/api"
	"docket/filter"
	"docket/jsonval"
)

func checkRefused(t *testing.T, q api.Value, want api.Errno) {
	t.Helper()
	if f, e := filter.Parse(q); e != want || (f == nil) != (want != api.OK) {
		t.Errorf("Parse(%.300s): %v, %d; want %d", full(q), f, e, want)
	}
}

// P4.1: what is a query, and the errors one by one.
func TestParse(t *testing.T) {
	for _, c := range []struct {
		query string
		want  api.Errno
	}{
		{`{}`, api.OK}, {`{"a":1}`, api.OK}, {`{"a":{}}`, api.OK}, {`{"a":[]}`, api.OK}, {`{"a.b.0":null}`, api.OK}, {`{"a":{"b":1,"$gt":2}}`, api.OK}, {`{"a":{"":1}}`, api.OK},
		{`[]`, api.ErrFilter}, {`null`, api.ErrFilter}, {`1`, api.ErrFilter}, {`"a"`, api.ErrFilter}, {`true`, api.ErrFilter}, {`[{}]`, api.ErrFilter},

		{`{"$and":[{}]}`, api.OK}, {`{"$or":[{},{"a":1}]}`, api.OK}, {`{"$nor":[{"$and":[{}]}]}`, api.OK},
		{`{"$and":[]}`, api.ErrOperand}, {`{"$or":[]}`, api.ErrOperand}, {`{"$nor":[]}`, api.ErrOperand}, {`{"$and":{}}`, api.ErrOperand}, {`{"$or":{"a":1}}`, api.ErrOperand}, {`{"$nor":null}`, api.ErrOperand},
		{`{"$and":[1]}`, api.ErrFilter}, {`{"$or":[{},[]]}`, api.ErrFilter}, {`{"$nor":[null]}`, api.ErrFilter},

		{`{"$x":1}`, api.ErrOperator}, {`{"$":1}`, api.ErrOperator}, {`{"$eq":1}`, api.ErrOperator}, {`{"$not":{"$eq":1}}`, api.ErrOperator}, {`{"$elemMatch":{}}`, api.ErrOperator}, {`{"$andy":[{}]}`, api.ErrOperator}, {`{"$AND":[{}]}`, api.ErrOperator}, {`{"$a.b":1}`, api.ErrOperator},
		{`{"":1}`, api.ErrPath}, {`{"a..b":1}`, api.ErrPath}, {`{".":1}`, api.ErrPath}, {`{"a.":1}`, api.ErrPath}, {`{"a.$b":1}`, api.ErrPath}, {`{"` + strings.Repeat("x", api.MaxSegment+1) + `":1}`, api.ErrPath}, {`{"` + strings.Repeat("x.", api.MaxSegments) + `x":1}`, api.ErrPath},
		{`{"` + strings.Repeat("x", api.MaxSegment) + `":1}`, api.OK}, {`{"` + strings.Repeat("x.", api.MaxSegments-1) + `x":1}`, api.OK},

		{`{"a":{"$x":1}}`, api.ErrOperator}, {`{"a":{"$":1}}`, api.ErrOperator}, {`{"a":{"$gt":1,"b":2}}`, api.ErrOperator}, {`{"a":{"$gt":1,"":2}}`, api.ErrOperator}, {`{"a":{"$and":[{}]}}`, api.ErrOperator}, {`{"a":{"$or":[{}]}}`, api.ErrOperator}, {`{"a":{"$nor":[{}]}}`, api.ErrOperator}, {`{"a":{"$GT":1}}`, api.ErrOperator},
	} {
		checkRefused(t, parsed(t, c.query), c.want)
	}
}

// P4.1: what each operator takes.
func TestParseOperands(t *testing.T) {
	values := []string{`null`, `false`, `true`, `0`, `-1`, `5`, `""`, `"int"`, `"x"`, `[]`, `[1]`, `[1,2]`, `[{}]`, `{}`, `{"a":1}`, `{"$eq":1}`, `{"$and":[{}]}`}
	for operator, taken := range map[string][]string{
		"$eq": values, "$ne": values, "$gt": values, "$gte": values, "$lt": values, "$lte": values,
		"$in": {`[]`, `[1]`, `[1,2]`, `[{}]`}, "$nin": {`[]`, `[1]`, `[1,2]`, `[{}]`}, "$all": {`[]`, `[1]`, `[1,2]`, `[{}]`},
		"$exists": {`false`, `true`}, "$type": {`"int"`}, "$size": {`0`, `5`}, "$mod": {`[1,2]`},
		"$not": {`{"$eq":1}`}, "$elemMatch": {`{}`, `{"a":1}`, `{"$eq":1}`, `{"$and":[{}]}`},
	} {
		ok := map[string]bool{}
		for _, v := range taken {
			ok[v] = true
		}
		for _, v := range values {
			want := api.ErrOperand
			switch isObject := strings.HasPrefix(v, "{"); {
			case ok[v]:
				want = api.OK
			case operator == "$not" && isObject && v != `{}`:
				want = api.ErrOperator
			case operator == "$not" || operator == "$elemMatch":
				want = api.ErrFilter
			}
			checkRefused(t, parsed(t, `{"a":{"`+operator+`":`+v+`}}`), want)
		}
	}
	for test, want := range map[string]api.Errno{
		`{"$type":"null"}`: api.OK, `{"$type":"bool"}`: api.OK, `{"$type":"string"}`: api.OK, `{"$type":"array"}`: api.OK, `{"$type":"object"}`: api.OK,
		`{"$type":"number"}`: api.ErrOperand, `{"$type":"Int"}`: api.ErrOperand, `{"$type":"int "}`: api.ErrOperand, `{"$type":["int"]}`: api.ErrOperand,
		`{"$size":9223372036854775807}`: api.OK, `{"$size":-9223372036854775808}`: api.ErrOperand, `{"$size":"1"}`: api.ErrOperand, `{"$size":[1]}`: api.ErrOperand,
		`{"$mod":[0,1]}`: api.ErrOperand, `{"$mod":[-1,0]}`: api.OK, `{"$mod":[3,-5]}`: api.OK, `{"$mod":[1,2,3]}`: api.ErrOperand, `{"$mod":[1]}`: api.ErrOperand, `{"$mod":["1",2]}`: api.ErrOperand, `{"$mod":[1,"2"]}`: api.ErrOperand, `{"$mod":[1,null]}`: api.ErrOperand, `{"$mod":{"a":1,"b":2}}`: api.ErrOperand,
		`{"$exists":1}`: api.ErrOperand, `{"$exists":null}`: api.ErrOperand, `{"$exists":"true"}`: api.ErrOperand,
	} {
		checkRefused(t, object("a", parsed(t, test)), want)
	}
}

// P4.1: what stands in $not and $elemMatch is read too, a test by what may stand in one, a query likewise.
func TestParseWithin(t *testing.T) {
	for test, want := range map[string]api.Errno{
		`{"$not":{"$x":1}}`: api.ErrOperator, `{"$not":{"$in":1}}`: api.ErrOperand, `{"$not":{"$not":{}}}`: api.ErrFilter, `{"$not":{"$not":{"$eq":1}}}`: api.OK, `{"$not":{"b":1}}`: api.ErrOperator,
		`{"$elemMatch":{"$x":1}}`: api.ErrOperator, `{"$elemMatch":{"$in":1}}`: api.ErrOperand, `{"$elemMatch":{"$eq":1,"a":1}}`: api.ErrOperator, `{"$elemMatch":{"$eq":1,"$and":[{}]}}`: api.ErrOperator,
		`{"$elemMatch":{"a":1,"$eq":1}}`: api.ErrOperator, `{"$elemMatch":{"$and":[{}],"$eq":1}}`: api.ErrOperator, `{"$elemMatch":{"$and":[{}],"a":1}}`: api.OK, `{"$elemMatch":{"$or":[{}]}}`: api.OK, `{"$elemMatch":{"$nor":[{}]}}`: api.OK,
		`{"$elemMatch":{"$nor":[]}}`: api.ErrOperand, `{"$elemMatch":{"$or":[1]}}`: api.ErrFilter, `{"$elemMatch":{"a..b":1}}`: api.ErrPath, `{"$elemMatch":{"":1}}`: api.ErrPath, `{"$elemMatch":{"a":{"$x":1}}}`: api.ErrOperator,
		`{"$elemMatch":{"$elemMatch":{"$elemMatch":{}}}}`: api.OK, `{"$elemMatch":{"$elemMatch":1}}`: api.ErrFilter, `{"$elemMatch":{"$not":{"$size":-1}}}`: api.ErrOperand,
	} {
		checkRefused(t, object("a", parsed(t, test)), want)
	}
}

// P4.1: the first from the left, and what stands in a member ahead of the next member.
func TestParseFirst(t *testing.T) {
	for _, c := range []struct {
		query string
		want  api.Errno
	}{
		{`{"$x":1,"a..b":1}`, api.ErrOperator}, {`{"a..b":1,"$x":1}`, api.ErrPath}, {`{"a":{"$in":1},"$x":1}`, api.ErrOperand}, {`{"a":{"$not":{}},"a..b":1}`, api.ErrFilter},
		{`{"a":{"$in":1,"$x":1}}`, api.ErrOperand}, {`{"a":{"$x":1,"$in":1}}`, api.ErrOperator}, {`{"a..b":{"$x":1}}`, api.ErrPath}, {`{"a..b":{"$in":1}}`, api.ErrPath}, {`{"$x":{"$in":1}}`, api.ErrOperator},
		{`{"$or":[{"a":{"$in":1}},1],"$x":1}`, api.ErrOperand}, {`{"$or":[1,{"a":{"$in":1}}]}`, api.ErrFilter}, {`{"$and":[{"$or":[]},{"$x":1}]}`, api.ErrOperand}, {`{"$and":[{},{"$x":1},1]}`, api.ErrOperator},
		{`{"a":{"$not":{"$eq":1,"$x":1},"$in":1}}`, api.ErrOperator}, {`{"a":{"$elemMatch":{"b":{"$in":1}},"$x":1}}`, api.ErrOperand}, {`{"a":1,"b":{"$gt":1,"$type":1},"$y":2}`, api.ErrOperand},
	} {
		checkRefused(t, parsed(t, c.query), c.want)
	}
}

// P4.1: MaxNested, of each that is deeper than what has it.
func TestParseNested(t *testing.T) {
	queries := func(name string) func(api.Value) api.Value {
		return func(q api.Value) api.Value { return object(name, jsonval.Listed(q, api.Value{Kind: api.Object})) }
	}
	items := func(q api.Value) api.Value { return object("a", object("$elemMatch", q)) }
	for name, around := range map[string]func(api.Value) api.Value{"$and": queries("$and"), "$or": queries("$or"), "$nor": queries("$nor"), "$elemMatch": items} {
		for _, c := range []struct {
			inner   string
			at, off api.Errno
		}{
			{`{}`, api.OK, api.ErrNested}, {`{"a":1}`, api.OK, api.ErrNested}, {`{"a":{"$gt":1}}`, api.OK, api.ErrNested}, {`{"$x":1}`, api.ErrOperator, api.ErrNested}, {`1`, api.ErrFilter, api.ErrFilter}, {`[]`, api.ErrFilter, api.ErrFilter},
			{`{"$and":[]}`, api.ErrOperand, api.ErrNested}, {`{"$and":[1]}`, api.ErrFilter, api.ErrNested}, {`{"$and":[{}]}`, api.ErrNested, api.ErrNested}, {`{"a":{"$not":1}}`, api.ErrFilter, api.ErrNested}, {`{"a":{"$not":{}}}`, api.ErrFilter, api.ErrNested}, {`{"a":{"$not":{"$x":1}}}`, api.ErrNested, api.ErrNested}, {`{"a":{"$elemMatch":{}}}`, api.ErrNested, api.ErrNested}, {`{"a":{"$elemMatch":1}}`, api.ErrFilter, api.ErrNested},
		} {
			q := parsed(t, c.inner)
			for range api.MaxNested {
				q = around(q)
			}
			if _, e := filter.Parse(q); e != c.at {
				t.Errorf("%s at MaxNested within %s: %d, want %d", c.inner, name, e, c.at)
			}
			if _, e := filter.Parse(around(q)); e != c.off {
				t.Errorf("%s behind MaxNested within %s: %d, want %d", c.inner, name, e, c.off)
			}
		}
	}
}

// P4.1: tests within tests are deeper, and where one is none or has no member, that is told ahead of its depth.
func TestParseNestedTests(t *testing.T) {
	for _, name := range []string{"$not", "$elemMatch"} {
		for _, c := range []struct {
			inner   string
			at, off api.Errno
		}{
			{`{"$eq":1}`, api.OK, api.ErrNested}, {`{"$x":1}`, api.ErrOperator, api.ErrNested}, {`1`, api.ErrFilter, api.ErrFilter}, {`{"$in":1}`, api.ErrOperand, api.ErrNested}, {`{"$not":{"$eq":1}}`, api.ErrNested, api.ErrNested}, {`{"$elemMatch":{"$eq":1}}`, api.ErrNested, api.ErrNested},
		} {
			test := parsed(t, c.inner)
			for range api.MaxNested {
				test = object(name, test)
			}
			if _, e := filter.Parse(object("a", test)); e != c.at {
				t.Errorf("%s at MaxNested within %s: %d, want %d", c.inner, name, e, c.at)
			}
			if _, e := filter.Parse(object("a", object(name, test))); e != c.off {
				t.Errorf("%s behind MaxNested within %s: %d, want %d", c.inner, name, e, c.off)
			}
		}
	}
	empty := api.Value{Kind: api.Object}
	for range api.MaxNested + 1 {
		empty = object("$not", empty)
	}
	checkRefused(t, object("a", empty), api.ErrFilter)
	checkRefused(t, object("a", object("$not", empty)), api.ErrNested)
}

// P4.1: how deep a value that an operator takes is has no part, nor how deep a query is behind the first error.
func TestParseDeepValues(t *testing.T) {
	deep := nested(60000, jsonval.Of(1))
	checkRefused(t, object("a", deep), api.OK)
	checkRefused(t, object("a", object("$in", deep)), api.OK)
	q := api.Value{Kind: api.Object}
	for range 30000 {
		q = object("$or", jsonval.Listed(q))
	}
	checkRefused(t, q, api.ErrNested)
	test := object("$eq", jsonval.Of(1))
	for range 30000 {
		test = object("$not", test)
	}
	checkRefused(t, object("a", test), api.ErrNested)
}

// many is a query of n paths, each with a term.
func many(n int) api.Value {
	q := api.Value{Kind: api.Object}
	for i := range n {
		q.Names, q.Items = append(q.Names, "a"+strconv.Itoa(i)), append(q.Items, jsonval.Of(1))
	}
	return q
}

// P4.1: MaxTerms, ahead of the errors of that operator alone.
func TestParseMany(t *testing.T) {
	checkRefused(t, many(api.MaxTerms), api.OK)
	checkRefused(t, many(api.MaxTerms+1), api.ErrMany)
	for _, c := range []struct {
		clause           string
		last, behindLast api.Errno
	}{
		{`{"b":1}`, api.OK, api.ErrMany}, {`{"b":{"$eq":1}}`, api.OK, api.ErrMany}, {`{"b":{"$x":1}}`, api.ErrOperator, api.ErrMany}, {`{"b":{"$in":1}}`, api.ErrOperand, api.ErrMany}, {`{"b":{"$not":1}}`, api.ErrFilter, api.ErrMany}, {`{"b":{"$elemMatch":1}}`, api.ErrFilter, api.ErrMany},
		{`{"b":{"$gt":1,"$lt":1}}`, api.ErrMany, api.ErrMany}, {`{"b":{"$gt":1,"$x":1}}`, api.ErrMany, api.ErrMany}, {`{"b":{"$in":1,"$lt":1}}`, api.ErrOperand, api.ErrMany},
		{`{"b":{"$not":{"$x":1}}}`, api.ErrMany, api.ErrMany}, {`{"b":{"$not":{}}}`, api.ErrFilter, api.ErrMany}, {`{"b":{"$elemMatch":{}}}`, api.OK, api.ErrMany}, {`{"b":{"$elemMatch":{"$x":1}}}`, api.ErrMany, api.ErrMany}, {`{"b":{"$elemMatch":{"a":1}}}`, api.ErrMany, api.ErrMany},
		{`{"b..c":1}`, api.ErrPath, api.ErrPath}, {`{"b..c":{"$x":1}}`, api.ErrPath, api.ErrPath}, {`{"$x":1}`, api.ErrOperator, api.ErrOperator}, {`{"$or":[]}`, api.ErrOperand, api.ErrOperand}, {`{"$or":[{}]}`, api.OK, api.OK}, {`{"$or":[1]}`, api.ErrFilter, api.ErrFilter}, {`{"$or":[{"b":1}]}`, api.OK, api.ErrMany},
		{`{"b":{"$elemMatch":{"b..c":1}}}`, api.ErrPath, api.ErrMany}, {`{"b":{"$elemMatch":{"$or":[{"c":1}]}}}`, api.ErrMany, api.ErrMany},
	} {
		extra := parsed(t, c.clause)
		for ahead, want := range map[int]api.Errno{api.MaxTerms - 1: c.last, api.MaxTerms: c.behindLast} {
			q := many(ahead)
			q.Names, q.Items = append(q.Names, extra.Names...), append(q.Items, extra.Items...)
			if _, e := filter.Parse(q); e != want {
				t.Errorf("%s behind %d terms: %d, want %d", c.clause, ahead, e, want)
			}
		}
	}
}

// P4.1: terms are counted through all of the query.
func TestParseManyThroughout(t *testing.T) {
	half := many(api.MaxTerms / 2)
	checkRefused(t, object("$or", jsonval.Listed(half, half)), api.OK)
	checkRefused(t, object("$or", jsonval.Listed(half, half, many(1))), api.ErrMany)
	checkRefused(t, jsonval.Named([]string{"$and", "$nor"}, jsonval.Listed(half), jsonval.Listed(many(api.MaxTerms/2+1))), api.ErrMany)
	checkRefused(t, object("a", object("$elemMatch", many(api.MaxTerms-1))), api.OK)
	checkRefused(t, object("a", object("$elemMatch", many(api.MaxTerms))), api.ErrMany)
	eqs := object("$eq", jsonval.Of(1))
	for range 9 {
		eqs = object("$not", eqs)
	}
	six := jsonval.Named([]string{"a", "b", "c", "d", "e", "f"}, eqs, eqs, eqs, eqs, eqs, eqs)
	checkRefused(t, jsonval.Named([]string{"$and", "$or"}, jsonval.Listed(six), jsonval.Listed(many(4))), api.OK)
	checkRefused(t, jsonval.Named([]string{"$and", "$or"}, jsonval.Listed(six), jsonval.Listed(many(5))), api.ErrMany)
	checkRefused(t, jsonval.Named([]string{"$or", "$and"}, jsonval.Listed(many(5)), jsonval.Listed(six)), api.ErrMany)
}

// P4.1: Values that jsonval.Check refuses are read as far as both their lists go.
func TestParseOddValues(t *testing.T) {
	one, wrong := jsonval.Of(1), jsonval.Of(2)
	for _, c := range []struct {
		q    api.Value
		want api.Errno
	}{
		{odd(api.Object, []string{"a", "$x"}, one), api.OK},
		{odd(api.Object, []string{"a"}, one, wrong), api.OK},
		{odd(api.Object, []string{"$x"}), api.OK},
		{odd(api.Object, nil, one), api.OK},
		{odd(api.Object, []string{"a", "a"}, one, one), api.OK},
		{odd(api.Object, []string{"a", "a..b", "$x"}, one, one), api.ErrPath},
		{odd(api.List, []string{"a"}, one), api.ErrFilter},
		{odd(7, []string{"a"}, one), api.ErrFilter},
		{odd(-1, []string{"a"}, one), api.ErrFilter},
		{object("a", odd(api.Object, []string{"$x"})), api.OK},
		{object("a", odd(api.Object, []string{"$gt", "$x"}, one)), api.OK},
		{object("a", odd(api.Object, []string{"$gt"}, one, one)), api.OK},
		{object("a", odd(api.Object, []string{"$gt", "$gt"}, one, one)), api.OK},
		{object("a", odd(api.Text, []string{"$x"}, one)), api.OK},
		{object("a", odd(api.List, []string{"$x"}, one)), api.OK},
		{object("a", odd(8, []string{"$x"}, one)), api.OK},
		{object("a", object("$not", odd(api.Object, []string{"$eq"}))), api.ErrFilter},
		{object("a", object("$not", odd(api.Object, nil, one))), api.ErrFilter},
		{object("a", object("$not", odd(api.List, []string{"$eq"}, one))), api.ErrFilter},
		{object("a", object("$elemMatch", odd(api.Object, []string{"$eq"}))), api.OK},
		{object("a", object("$elemMatch", odd(api.List, []string{"$eq"}, one))), api.ErrFilter},
		{object("a", object("$elemMatch", odd(api.Object, []string{"$x"}, one, one))), api.ErrOperator},
		{object("$and", odd(api.Object, nil, odd(api.Object, nil))), api.ErrOperand},
		{object("$and", odd(api.List, []string{"a"})), api.ErrOperand},
		{object("$and", odd(api.List, []string{"a", "b"}, odd(api.Object, nil))), api.OK},
		{object("a", object("$in", odd(api.Object, nil, one))), api.ErrOperand},
		{object("a", object("$type", api.Value{Kind: api.Int, Text: "int"})), api.ErrOperand},
		{object("a", object("$size", api.Value{Kind: api.Text, Int: 1})), api.ErrOperand},
		{object("a", object("$mod", odd(api.Object, nil, one, one))), api.ErrOperand},
		{object("a", object("$exists", api.Value{Kind: 7})), api.ErrOperand},
		{object("a", object("$gt", api.Value{Kind: 7})), api.OK},
		{object("\xff", one), api.OK},
	} {
		checkRefused(t, c.q, c.want)
	}
}

// P4.1: against the chapter's words, at queries with faults thrown in.
func TestParseByTheWords(t *testing.T) {
	d := newDice(41)
	refused := map[api.Errno]int{}
	for range 60000 {
		q := d.query(3)
		for range d.Intn(3) {
			q = d.faulty(q)
		}
		if d.Intn(4) == 0 {
			q = d.spoilt(q)
		}
		var w words
		want := w.query(q, 0)
		refused[want]++
		f, e := filter.Parse(q)
		if e != want || (f == nil) != (want != api.OK) || want == api.OK && f.Terms() != w.terms {
			t.Fatalf("Parse(%s): %v, %d; want %d", full(q), f, e, want)
		}
	}
	for _, e := range []api.Errno{api.OK, api.ErrFilter, api.ErrOperator, api.ErrPath, api.ErrOperand} {
		if refused[e] < 100 {
			t.Errorf("%d: only %d queries", e, refused[e])
		}
	}
}
