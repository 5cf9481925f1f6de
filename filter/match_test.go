package filter_test

import (
	"math"
	"strings"
	"testing"

	"docket/api"
	"docket/filter"
	"docket/jsonval"
)

const document = `{"a":5,"t":["x","y"],"l":[{"n":1,"m":2},{"n":3,"m":4}],"o":{"p":null}}`

// checkMatches: each line of yes and of no is a query.
func checkMatches(t *testing.T, document string, yes, no []string) {
	t.Helper()
	for want, queries := range map[bool][]string{true: yes, false: no} {
		for _, q := range queries {
			if matched(t, q, document) != want {
				t.Errorf("%s of %s: %v, want %v", q, document, !want, want)
			}
		}
	}
}

// P4.2: the chapter's examples.
func TestExamples(t *testing.T) {
	checkMatches(t, document, []string{
		`{}`, `{"a":5}`, `{"t":"x"}`, `{"t":["x","y"]}`, `{"l.n":3}`, `{"o.p":null}`, `{"q":null}`,
		`{"a":{"$gt":4,"$lt":6}}`, `{"l.n":{"$gt":1,"$lt":3}}`, `{"l":{"$elemMatch":{"n":1,"m":2}}}`, `{"t":{"$elemMatch":{"$eq":"y"}}}`,
		`{"q":{"$ne":1}}`, `{"t":{"$all":["y","x"]}}`, `{"t":{"$size":2}}`, `{"a":{"$mod":[3,2]}}`, `{"a":{"$type":"int"}}`, `{"t":{"$type":"string"}}`, `{"t":{"$type":"array"}}`,
	}, []string{
		`{"t":"z"}`, `{"a":"5"}`, `{"a":{"$gt":"4"}}`, `{"l":{"$elemMatch":{"n":{"$gt":1,"$lt":3}}}}`, `{"t":{"$nin":["x"]}}`, `{"t":{"$all":[]}}`,
	})
	checkMatches(t, `{"a":{"b":1,"$gt":2}}`, []string{`{"a":{"b":1,"$gt":2}}`}, nil)
	checkMatches(t, `{"a":3}`, nil, []string{`{"a":{"b":1,"$gt":2}}`})
}

// P4.2: $eq and $ne: a value or an item of one, and null where there is none.
func TestEqual(t *testing.T) {
	checkMatches(t, `{"a":[1,[2],{"b":3},null],"e":[],"n":null,"o":{"x":1,"y":2},"f":false}`, []string{
		`{"a":1}`, `{"a":[2]}`, `{"a":{"b":3}}`, `{"a":null}`, `{"a":[1,[2],{"b":3},null]}`, `{"a.b":3}`, `{"a.0":1}`, `{"a.1":2}`, `{"a.3":null}`, `{"a.4":null}`, `{"a.b":{"$ne":4}}`,
		`{"e":[]}`, `{"n":null}`, `{"n.x":null}`, `{"o":{"x":1,"y":2}}`, `{"o.z":null}`, `{"z":{"$eq":null}}`, `{"f":false}`, `{"f":{"$ne":true}}`,
		`{"a":{"$ne":2}}`, `{"o":{"$ne":{"y":2,"x":1}}}`, `{"z":{"$ne":1}}`, `{"e":{"$ne":null}}`, `{"e":{"$ne":1}}`,
	}, []string{
		`{"a":2}`, `{"a":3}`, `{"a":[1]}`, `{"a":[]}`, `{"a.1":1}`, `{"a.b":null}`, `{"a.b":4}`, `{"e":null}`, `{"n":0}`, `{"n":false}`, `{"n":""}`, `{"n":[]}`, `{"n":{}}`, `{"o":{"y":2,"x":1}}`, `{"o":{"x":1}}`, `{"o":1}`, `{"z":false}`, `{"f":null}`, `{"f":true}`, `{"f":0}`,
		`{"a":{"$ne":1}}`, `{"a":{"$ne":null}}`, `{"a":{"$ne":[2]}}`, `{"z":{"$ne":null}}`, `{"n":{"$ne":null}}`, `{"e":{"$ne":[]}}`, `{"a":{"$eq":1,"$ne":1}}`, `{"f":{"$ne":false}}`,
	})
}

// P4.2: the comparisons, at what is above, alike and below, and of classes.
func TestCompared(t *testing.T) {
	for _, c := range []struct {
		value, x      string
		gt, lt, alike bool
	}{
		{`5`, `4`, true, false, false}, {`5`, `5`, false, false, true}, {`5`, `6`, false, true, false}, {`-9223372036854775808`, `9223372036854775807`, false, true, false},
		{`"b"`, `"a"`, true, false, false}, {`"b"`, `"b"`, false, false, true}, {`"b"`, `"ba"`, false, true, false}, {`""`, `""`, false, false, true},
		{`null`, `null`, false, false, true}, {`false`, `true`, false, true, false}, {`true`, `false`, true, false, false}, {`true`, `true`, false, false, true}, {`false`, `false`, false, false, true},
		{`{"a":1}`, `{"a":2}`, false, true, false}, {`{"b":1}`, `{"a":2}`, true, false, false}, {`{}`, `{}`, false, false, true},
		{`[1,2]`, `[1]`, true, false, false}, {`[]`, `[1]`, false, true, false}, {`[]`, `[]`, false, false, true},
		{`5`, `"4"`, false, false, false}, {`5`, `null`, false, false, false}, {`null`, `0`, false, false, false}, {`5`, `[4]`, false, false, false}, {`{}`, `[]`, false, false, false}, {`{}`, `""`, false, false, false}, {`true`, `1`, false, false, false}, {`true`, `null`, false, false, false}, {`1`, `false`, false, false, false}, {`[]`, `null`, false, false, false},
		{`[5]`, `4`, true, false, false}, {`[3]`, `4`, false, true, false}, {`[3,5]`, `4`, true, true, false}, {`["5",null]`, `4`, false, false, false}, {`[[5]]`, `4`, false, false, false}, {`[[5]]`, `[4]`, true, false, false}, {`[3,4]`, `4`, false, true, true}, {`[true]`, `false`, true, false, false},
		{`[[1],[9]]`, `[[5]]`, false, true, false}, {`[0,[7]]`, `[5]`, true, true, false},
	} {
		d := `{"a":` + c.value + `}`
		for operator, want := range map[string]bool{"$gt": c.gt, "$lt": c.lt, "$gte": c.gt || c.alike, "$lte": c.lt || c.alike} {
			if q := `{"a":{"` + operator + `":` + c.x + `}}`; matched(t, q, d) != want {
				t.Errorf("%s of %s: %v", q, d, !want)
			}
		}
	}
	for _, operator := range []string{"$gt", "$gte", "$lt", "$lte"} {
		for _, x := range []string{`null`, `0`, `""`, `[]`, `{}`, `false`} {
			if q := `{"z":{"` + operator + `":` + x + `}}`; matched(t, q, `{"a":1}`) {
				t.Errorf("%s where nothing stands", q)
			}
		}
	}
}

// P4.2: $in, $nin and $all.
func TestLists(t *testing.T) {
	checkMatches(t, `{"a":5,"l":[1,[2,3],null],"e":[],"n":null}`, []string{
		`{"a":{"$in":[1,5]}}`, `{"a":{"$in":[5]}}`, `{"l":{"$in":[7,1]}}`, `{"l":{"$in":[[2,3]]}}`, `{"l":{"$in":[[1,[2,3],null]]}}`, `{"z":{"$in":[1,null]}}`, `{"n":{"$in":[null]}}`, `{"e":{"$in":[[]]}}`,
		`{"a":{"$nin":[]}}`, `{"a":{"$nin":[1,"5",[5]]}}`, `{"l":{"$nin":[2,3,[1]]}}`, `{"z":{"$nin":[1]}}`, `{"e":{"$nin":[null,1]}}`,
		`{"a":{"$all":[5]}}`, `{"a":{"$all":[5,5]}}`, `{"l":{"$all":[null,1]}}`, `{"l":{"$all":[1,[2,3],[1,[2,3],null]]}}`, `{"z":{"$all":[null]}}`, `{"z":{"$all":[null,null]}}`, `{"e":{"$all":[[]]}}`,
	}, []string{
		`{"a":{"$in":[]}}`, `{"a":{"$in":[1,"5",[5]]}}`, `{"l":{"$in":[2,3,[1]]}}`, `{"z":{"$in":[1]}}`, `{"z":{"$in":[]}}`, `{"e":{"$in":[null]}}`,
		`{"a":{"$nin":[1,5]}}`, `{"l":{"$nin":[null]}}`, `{"z":{"$nin":[null]}}`, `{"n":{"$nin":[1,null]}}`,
		`{"a":{"$all":[]}}`, `{"z":{"$all":[]}}`, `{"e":{"$all":[]}}`, `{"a":{"$all":[5,6]}}`, `{"a":{"$all":[6,5]}}`, `{"l":{"$all":[1,2]}}`, `{"z":{"$all":[null,1]}}`, `{"l":{"$all":[[1,null]]}}`,
	})
}

// P4.2: $exists and $type.
func TestPresenceAndType(t *testing.T) {
	checkMatches(t, `{"n":null,"f":false,"t":true,"i":0,"s":"","l":[],"o":{},"m":[1,"x",[true],{"k":null}]}`, []string{
		`{"n":{"$exists":true}}`, `{"f":{"$exists":true}}`, `{"l":{"$exists":true}}`, `{"m.k":{"$exists":true}}`, `{"m.3":{"$exists":true}}`, `{"z":{"$exists":false}}`, `{"m.z":{"$exists":false}}`, `{"m.4":{"$exists":false}}`, `{"l.0":{"$exists":false}}`, `{"i.x":{"$exists":false}}`,
		`{"n":{"$type":"null"}}`, `{"f":{"$type":"bool"}}`, `{"t":{"$type":"bool"}}`, `{"i":{"$type":"int"}}`, `{"s":{"$type":"string"}}`, `{"l":{"$type":"array"}}`, `{"o":{"$type":"object"}}`,
		`{"m":{"$type":"array"}}`, `{"m":{"$type":"int"}}`, `{"m":{"$type":"string"}}`, `{"m":{"$type":"object"}}`, `{"m.k":{"$type":"null"}}`, `{"m.2":{"$type":"bool"}}`,
	}, []string{
		`{"n":{"$exists":false}}`, `{"f":{"$exists":false}}`, `{"m.k":{"$exists":false}}`, `{"z":{"$exists":true}}`, `{"m.z":{"$exists":true}}`, `{"l.0":{"$exists":true}}`,
		`{"z":{"$type":"null"}}`, `{"n":{"$type":"bool"}}`, `{"n":{"$type":"object"}}`, `{"f":{"$type":"int"}}`, `{"f":{"$type":"null"}}`, `{"i":{"$type":"bool"}}`, `{"s":{"$type":"null"}}`, `{"l":{"$type":"null"}}`, `{"l":{"$type":"object"}}`, `{"o":{"$type":"array"}}`, `{"i":{"$type":"string"}}`, `{"m":{"$type":"bool"}}`, `{"m":{"$type":"null"}}`,
	})
}

// P4.2: $size is of a value alone, $mod of a tested one.
func TestSizeAndRemainder(t *testing.T) {
	checkMatches(t, `{"e":[],"l":[[1],[2,3],4],"o":{"x":1,"y":2},"s":"ab","k":[{"v":[1,2]},{"v":[3]}],"i":7,"m":-7,"w":-9223372036854775808}`, []string{
		`{"e":{"$size":0}}`, `{"l":{"$size":3}}`, `{"l.0":{"$size":1}}`, `{"l.1":{"$size":2}}`, `{"k.v":{"$size":2}}`, `{"k.v":{"$size":1}}`, `{"k":{"$size":2}}`,
		`{"i":{"$mod":[3,1]}}`, `{"i":{"$mod":[-3,1]}}`, `{"m":{"$mod":[3,-1]}}`, `{"m":{"$mod":[-3,-1]}}`, `{"i":{"$mod":[7,0]}}`, `{"i":{"$mod":[8,7]}}`, `{"w":{"$mod":[-1,0]}}`, `{"w":{"$mod":[1,0]}}`, `{"w":{"$mod":[-9223372036854775808,0]}}`, `{"l":{"$mod":[3,1]}}`, `{"l.1":{"$mod":[3,0]}}`, `{"k.v":{"$mod":[4,3]}}`,
	}, []string{
		`{"e":{"$size":1}}`, `{"l":{"$size":1}}`, `{"l":{"$size":2}}`, `{"l":{"$size":4}}`, `{"l.2":{"$size":1}}`, `{"l.2":{"$size":0}}`, `{"o":{"$size":2}}`, `{"s":{"$size":2}}`, `{"k.v":{"$size":3}}`, `{"z":{"$size":0}}`, `{"e":{"$size":4294967296}}`, `{"e":{"$size":9223372036854775807}}`,
		`{"i":{"$mod":[3,2]}}`, `{"i":{"$mod":[3,4]}}`, `{"m":{"$mod":[3,2]}}`, `{"m":{"$mod":[3,1]}}`, `{"i":{"$mod":[3,-2]}}`, `{"s":{"$mod":[1,0]}}`, `{"e":{"$mod":[1,0]}}`, `{"o":{"$mod":[1,0]}}`, `{"z":{"$mod":[1,0]}}`, `{"l":{"$mod":[3,0]}}`, `{"w":{"$mod":[-1,1]}}`,
	})
}

// P4.2: $not is of all of its test.
func TestNot(t *testing.T) {
	checkMatches(t, `{"a":5,"l":[1,9]}`, []string{
		`{"a":{"$not":{"$gt":5}}}`, `{"a":{"$not":{"$gt":4,"$lt":5}}}`, `{"a":{"$not":{"$gt":5,"$lt":6}}}`, `{"a":{"$not":{"$not":{"$eq":5}}}}`, `{"z":{"$not":{"$gt":1}}}`, `{"z":{"$not":{"$exists":true}}}`, `{"a":{"$not":{"$eq":6},"$gt":4}}`, `{"a":{"$not":{"$type":"string"}}}`,
	}, []string{
		`{"a":{"$not":{"$gt":4}}}`, `{"a":{"$not":{"$gt":4,"$lt":6}}}`, `{"a":{"$not":{"$not":{"$eq":6}}}}`, `{"z":{"$not":{"$eq":null}}}`, `{"l":{"$not":{"$gt":1,"$lt":9}}}`, `{"a":{"$not":{"$eq":6},"$gt":5}}`,
	})
}

// P4.2: $elemMatch is of one item at a time, and of items of a value alone.
func TestItems(t *testing.T) {
	checkMatches(t, `{"a":5,"e":[],"l":[1,9,[4,[6]],{"n":2},null],"o":{"n":1},"k":[{"v":[1,5]},{"v":[{"n":3},8]}]}`, []string{
		`{"l":{"$elemMatch":{"$gt":8,"$lt":10}}}`, `{"l":{"$elemMatch":{"$eq":4}}}`, `{"l":{"$elemMatch":{"$eq":[6]}}}`, `{"l":{"$elemMatch":{"$eq":[4,[6]]}}}`, `{"l":{"$elemMatch":{"$eq":null}}}`, `{"l":{"$elemMatch":{"$size":2}}}`, `{"l":{"$elemMatch":{"$elemMatch":{"$eq":4}}}}`, `{"l":{"$elemMatch":{"$elemMatch":{"$eq":6}}}}`, `{"l":{"$elemMatch":{"$elemMatch":{"$elemMatch":{"$eq":6}}}}}`,
		`{"l":{"$elemMatch":{"$not":{"$gt":0}}}}`, `{"l":{"$elemMatch":{"$exists":true}}}`, `{"l":{"$elemMatch":{"$type":"object"}}}`, `{"l":{"$elemMatch":{"$ne":1}}}`, `{"l":{"$elemMatch":{"$in":[7,9]}}}`, `{"l":{"$elemMatch":{"$mod":[4,0],"$type":"array"}}}`,
		`{"l":{"$elemMatch":{}}}`, `{"l":{"$elemMatch":{"n":2}}}`, `{"l":{"$elemMatch":{"z":null}}}`, `{"l":{"$elemMatch":{"$or":[{"n":7},{"n":2}]}}}`, `{"l":{"$elemMatch":{"$nor":[{"n":7}]}}}`, `{"l":{"$elemMatch":{"$and":[{"n":2}],"n":{"$lt":3}}}}`,
		`{"k.v":{"$elemMatch":{"$gt":4,"$lt":6}}}`, `{"k.v":{"$elemMatch":{"n":3}}}`, `{"k":{"$elemMatch":{"v":8}}}`, `{"k":{"$elemMatch":{"v":{"$elemMatch":{"n":3}}}}}`, `{"k":{"$elemMatch":{"v.n":3,"v":8}}}`,
	}, []string{
		`{"l":{"$elemMatch":{"$gt":1,"$lt":4}}}`, `{"l":{"$elemMatch":{"$eq":6}}}`, `{"l":{"$elemMatch":{"$size":5}}}`, `{"l":{"$elemMatch":{"$exists":false}}}`, `{"l":{"$elemMatch":{"$elemMatch":{"$eq":1}}}}`, `{"l":{"$elemMatch":{"$all":[1,9]}}}`, `{"l":{"$elemMatch":{"n":3}}}`, `{"l":{"$elemMatch":{"0":4}}}`, `{"l":{"$elemMatch":{"n":2,"z":1}}}`,
		`{"a":{"$elemMatch":{"$eq":5}}}`, `{"a":{"$elemMatch":{}}}`, `{"e":{"$elemMatch":{}}}`, `{"e":{"$elemMatch":{"$eq":null}}}`, `{"e":{"$elemMatch":{"$ne":1}}}`, `{"o":{"$elemMatch":{"n":1}}}`, `{"o":{"$elemMatch":{"$eq":1}}}`, `{"z":{"$elemMatch":{}}}`, `{"z":{"$elemMatch":{"$eq":null}}}`,
		`{"k":{"$elemMatch":{"v.n":3,"v":5}}}`, `{"k.v":{"$elemMatch":{"n":1}}}`, `{"k":{"$elemMatch":{"$eq":1}}}`,
	})
	checkMatches(t, `{"l":[[],[[{"n":1}]],2]}`, nil, []string{`{"l":{"$elemMatch":{}}}`, `{"l":{"$elemMatch":{"n":null}}}`, `{"l":{"$elemMatch":{"n":1}}}`})
}

// P4.2: all clauses of a query, all operators of a test, and $and, $or, $nor.
func TestClauses(t *testing.T) {
	checkMatches(t, `{"a":1,"b":2}`, []string{
		`{"a":1,"b":2}`, `{"a":{"$gt":0,"$lt":2,"$ne":5}}`, `{"$and":[{"a":1},{"b":2}]}`, `{"$and":[{}]}`, `{"$or":[{"a":9},{"b":2}]}`, `{"$or":[{"a":1},{"b":9}]}`, `{"$or":[{}]}`, `{"$nor":[{"a":9},{"b":9}]}`, `{"$nor":[{"a":1,"b":9}]}`,
		`{"$or":[{"a":9}, {"$and":[{"a":1},{"$nor":[{"b":9}]}]}],"a":1}`, `{"$and":[{"a":1}],"$or":[{"b":2}],"$nor":[{"a":2}]}`, `{"$nor":[{"$nor":[{"a":1}]}]}`,
	}, []string{
		`{"a":1,"b":9}`, `{"a":9,"b":2}`, `{"a":{"$gt":0,"$lt":1}}`, `{"a":{"$lt":1,"$gt":0}}`, `{"$and":[{"a":1},{"b":9}]}`, `{"$and":[{"a":9},{"b":2}]}`, `{"$or":[{"a":9},{"b":9}]}`, `{"$nor":[{"a":9},{"b":2}]}`, `{"$nor":[{"a":1},{"b":9}]}`, `{"$nor":[{}]}`,
		`{"$or":[{"a":1}],"b":9}`, `{"b":9,"$or":[{"a":1}]}`, `{"$and":[{"a":1}],"$or":[{"b":9}]}`, `{"$nor":[{"$nor":[{"a":9}]}]}`,
	})
}

// P4.2: what is handed to Match need be no document, and no value.
func TestMatchOfAnyValue(t *testing.T) {
	one, two := jsonval.Of(1), jsonval.Of(2)
	for _, c := range []struct {
		query string
		d     api.Value
		want  bool
	}{
		{`{}`, api.Value{}, true}, {`{"a":null}`, one, true}, {`{"a":1}`, one, false}, {`{"a":1}`, parsed(t, `[{"a":2},{"a":1}]`), true}, {`{"1":2}`, parsed(t, `[1,2]`), true}, {`{"a":{"$exists":false}}`, parsed(t, `[1,2]`), true},
		{`{"a":1}`, odd(api.Object, []string{"a", "b"}, one), true}, {`{"b":null}`, odd(api.Object, []string{"a", "b"}, one), true}, {`{"a":1}`, odd(api.Object, []string{"a", "a"}, one, two), true}, {`{"a":2}`, odd(api.Object, []string{"a", "a"}, one, two), false}, {`{"a":{"$exists":true}}`, odd(api.Object, nil, one), false},
		{`{"a":{"$size":2}}`, object("a", odd(api.List, []string{"x"}, one, two)), true}, {`{"a":{"$size":2}}`, object("a", odd(api.Text, nil, one, two)), false}, {`{"a":1}`, object("a", odd(api.Text, nil, one, two)), false}, {`{"a":{"$type":"string"}}`, object("a", odd(api.Text, nil, one, two)), true},
		{`{"a":1}`, object("a", api.Value{Kind: api.Int, Int: 1, Text: "x"}), false}, {`{"a":{"$gte":1,"$lte":1}}`, object("a", api.Value{Kind: api.Int, Int: 1, Text: "x"}), true}, {`{"a":{"$type":"bool"}}`, object("a", api.Value{Kind: 7}), false}, {`{"a":{"$exists":true}}`, object("a", api.Value{Kind: -1}), true}, {`{"a":null}`, object("a", api.Value{Kind: 7}), false},
		{`{"a":{"$elemMatch":{}}}`, object("a", odd(7, nil, odd(api.Object, nil))), false}, {`{"a":{"$elemMatch":{}}}`, object("a", odd(api.List, nil, odd(7, nil))), false}, {`{"a":{"$mod":[2,1]}}`, object("a", api.Value{Kind: api.Text, Int: 1}), false},
	} {
		if made(t, parsed(t, c.query)).Match(c.d) != c.want {
			t.Errorf("%s of %s: %v", c.query, full(c.d), !c.want)
		}
	}
	strange := api.Value{Kind: 7}
	for operator, want := range map[string]bool{"$eq": true, "$gt": false, "$gte": true, "$lt": false, "$lte": true, "$ne": false} {
		f := made(t, object("a", object(operator, strange)))
		if f.Match(object("a", strange)) != want {
			t.Errorf("%s of a kind that is none", operator)
		}
		if f.Match(object("a", api.Value{Kind: 8})) != (operator == "$ne") {
			t.Errorf("%s of two kinds that are none", operator)
		}
	}
	if f := made(t, object("a", api.Value{Kind: api.Null, Int: 3})); !f.Match(odd(api.Object, nil)) || f.Match(object("a", api.Value{})) {
		t.Error("null with a number, where nothing stands and at null")
	}
}

// P4.2: documents and values as deep as the bound allows, and greater than a text may be.
func TestMatchOfGreatDocuments(t *testing.T) {
	deep := object("a", nested(60000, jsonval.Of(1)))
	for _, q := range []api.Value{deep, object("a", object("$gte", deep.Items[0])), object("a", object("$elemMatch", object("$eq", deep.Items[0].Items[0])))} {
		if !made(t, q).Match(deep) {
			t.Errorf("%.60s of a deep document", full(q))
		}
	}
	var items []api.Value
	for i := range int64(5000) {
		items = append(items, object("n", jsonval.Of(i)))
	}
	wide := object("a", jsonval.Listed(items...))
	checkWide := map[string]bool{`{"a.n":4999}`: true, `{"a.n":5000}`: false, `{"a.4999.n":4999}`: true, `{"a":{"$elemMatch":{"n":{"$gt":4998}}}}`: true, `{"a":{"$size":5000}}`: true, `{"a.n":{"$mod":[5000,4999]}}`: true}
	for q, want := range checkWide {
		if made(t, parsed(t, q)).Match(wide) != want {
			t.Errorf("%s of a wide document", q)
		}
	}
}

// P4.2: against the chapter's words, of values and of such as are none.
func TestMatchByTheWords(t *testing.T) {
	d := newDice(42)
	answers := map[bool]int{}
	for range 40000 {
		q, v := d.query(3), d.document(4)
		if d.Intn(5) == 0 {
			q = d.spoilt(q)
		}
		f, e := filter.Parse(q)
		if e != api.OK {
			continue
		}
		for range 3 {
			if d.Intn(5) == 0 {
				v = d.spoilt(v)
			}
			want := takes(q, v)
			answers[want]++
			if f.Match(v) != want {
				t.Fatalf("%s of %s: %v", full(q), full(v), !want)
			}
			v = d.value(4)
		}
	}
	if min(answers[true], answers[false]) < 5000 {
		t.Error(answers)
	}
}

// P4.2: each operator alone, at every two of a list of values.
func TestOperatorsByTheWords(t *testing.T) {
	texts := `null|false|true|0|1|-1|9223372036854775807|"" |"a"|"b"|[]|[1]|[0,1]|[null]|[[1]]|[[]]|["a",true]|{}|{"a":1}|{"a":[1]}|[{"a":1}]`
	values := []api.Value{{Kind: 7}, {Kind: api.Null, Int: 1}, jsonval.Of(math.MinInt64)}
	for _, text := range strings.Split(texts, "|") {
		values = append(values, parsed(t, text))
	}
	for _, operator := range operators() {
		for _, x := range values {
			for _, q := range []api.Value{object("a", object(operator, x)), object("a", object("$not", object(operator, x))), object("a", object("$elemMatch", object(operator, x))), object("a.a", object(operator, x))} {
				f, e := filter.Parse(q)
				if e != api.OK {
					continue
				}
				for _, v := range values {
					for _, d := range []api.Value{object("a", v), object("b", v), v} {
						if want := takes(q, d); f.Match(d) != want {
							t.Errorf("%s of %s: %v", full(q), full(d), !want)
						}
					}
				}
			}
		}
	}
}
