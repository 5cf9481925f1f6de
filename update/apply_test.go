package update_test

import (
	"strconv"
	"strings"
	"testing"

	"docket/api"
	"docket/jsonval"
)

// outcome is a row of a table: what one list of operators makes of a document, or its error and its term.
type outcome struct {
	ops, d, want string
	e            api.Errno
	at           int
}

func checkAll(t *testing.T, rows []outcome) {
	t.Helper()
	for _, r := range rows {
		checkApplied(t, r.ops, `null`, r.d, false, r.want, r.e, r.at)
	}
}

// P5.3: the chapter's examples.
func TestApplyExamples(t *testing.T) {
	checkAll(t, []outcome{
		{ops: `{"$inc":{"n":2,"m":1},"$push":{"t":"y"}}`, d: document, want: `{"n":7,"t":["x","y"],"l":[{"q":1},{"q":2}],"m":1}`},
		{ops: `{"$set":{"n":5}}`, d: document, want: document},
		{ops: `{"$inc":{"t":1}}`, d: document, e: api.ErrKind},
		{ops: `{"$set":{"a":1},"$inc":{"l":1}}`, d: document, e: api.ErrKind, at: 1},
		{ops: `{"$set":{"n.x":1}}`, d: document, e: api.ErrCross},
		{ops: `{"$set":{"t.3":1}}`, d: document, e: api.ErrIndex},
		{ops: `{"$inc":{"n":9223372036854775807}}`, d: document, e: api.ErrOverflow},
		{ops: `{"$set":{"l.$[].q":0}}`, d: document, want: `{"n":5,"t":["x"],"l":[{"q":0},{"q":0}]}`},
		{ops: `{"$set":{"n.$[]":1}}`, d: document, e: api.ErrWhere},
		{ops: `{"$push":{"t":{"$each":["a","b"],"$position":0,"$slice":2}}}`, d: document, want: `{"n":5,"t":["a","b"],"l":[{"q":1},{"q":2}]}`},
		{ops: `{"$pull":{"l":{"q":{"$lt":2}}}}`, d: document, want: `{"n":5,"t":["x"],"l":[{"q":2}]}`},
		{ops: `{"$pop":{"t":1}}`, d: document, want: `{"n":5,"t":[],"l":[{"q":1},{"q":2}]}`},
		{ops: `{"$rename":{"n":"k"}}`, d: document, want: `{"t":["x"],"l":[{"q":1},{"q":2}],"k":5}`},
	})
	checkApplied(t, `{"$inc":{"l.$[e].q":10}}`, `[{"e.q":{"$gt":1}}]`, document, false, `{"n":5,"t":["x"],"l":[{"q":1},{"q":12}]}`, api.OK, 0)
}

// P5.3: $set and $unset.
func TestSetAndUnset(t *testing.T) {
	checkAll(t, []outcome{
		{ops: `{"$set":{"a":null}}`, d: `{}`, want: `{"a":null}`},
		{ops: `{"$set":{"a":null}}`, d: `{"a":null}`, want: `{"a":null}`},
		{ops: `{"$set":{"a":{"$x":[1]}}}`, d: `{"b":1,"a":2,"c":3}`, want: `{"b":1,"a":{"$x":[1]},"c":3}`},
		{ops: `{"$set":{"a.b.0":1}}`, d: `{}`, want: `{"a":{"b":{"0":1}}}`},
		{ops: `{"$set":{"a.1":1}}`, d: `{"a":[0]}`, want: `{"a":[0,1]}`},
		{ops: `{"$set":{"a.1.b.c":1}}`, d: `{"a":[0]}`, want: `{"a":[0,{"b":{"c":1}}]}`},
		{ops: `{"$set":{"b":1,"a":2}}`, d: `{}`, want: `{"b":1,"a":2}`},
		{ops: `{"$set":{"a.2":1}}`, d: `{"a":[0]}`, e: api.ErrIndex},
		{ops: `{"$set":{"a.b":1}}`, d: `{"a":[0]}`, e: api.ErrCross},
		{ops: `{"$set":{"b":1,"a.b":1}}`, d: `{"a":null}`, e: api.ErrCross, at: 1},
		{ops: `{"$unset":{"a":""}}`, d: `{"b":1,"a":2,"c":3}`, want: `{"b":1,"c":3}`},
		{ops: `{"$unset":{"a.0":[]}}`, d: `{"a":[1,2]}`, want: `{"a":[null,2]}`},
		{ops: `{"$unset":{"a.0":0}}`, d: `{"a":[null,2]}`, want: `{"a":[null,2]}`},
		{ops: `{"$unset":{"a.b":0,"b":0,"c.7":0,"d.e.f":0}}`, d: `{"a":1,"c":[1]}`, want: `{"a":1,"c":[1]}`},
		{ops: `{"$unset":{"a.b":false}}`, d: `{"a":{"b":{"c":1}}}`, want: `{"a":{}}`},
	})
}

// P5.3: $setOnInsert, of a document that is fresh and of one that is not: then it has no places, and so no errors.
func TestSetOnInsert(t *testing.T) {
	for _, c := range []struct {
		ops, d, fresh, other string
		e                    api.Errno
	}{
		{`{"$setOnInsert":{"a":1}}`, `{}`, `{"a":1}`, `{}`, api.OK},
		{`{"$setOnInsert":{"a":1}}`, `{"a":2}`, `{"a":1}`, `{"a":2}`, api.OK},
		{`{"$setOnInsert":{"a":1},"$set":{"b":2}}`, `{}`, `{"a":1,"b":2}`, `{"b":2}`, api.OK},
		{`{"$set":{"b":2},"$setOnInsert":{"l.$[].a":1}}`, `{"l":[{}]}`, `{"l":[{"a":1}],"b":2}`, `{"l":[{}],"b":2}`, api.OK},
		{`{"$setOnInsert":{"a.b":1}}`, `{"a":2}`, ``, `{"a":2}`, api.ErrCross},
		{`{"$setOnInsert":{"a.1":1}}`, `{"a":[]}`, ``, `{"a":[]}`, api.ErrIndex},
		{`{"$setOnInsert":{"a.$[]":1}}`, `{}`, ``, `{}`, api.ErrWhere},
		{`{"$setOnInsert":{"a":"` + strings.Repeat("x", api.MaxDoc) + `"}}`, `{}`, ``, `{}`, api.ErrBig},
	} {
		checkApplied(t, c.ops, `null`, c.d, true, c.fresh, c.e, 0)
		checkApplied(t, c.ops, `null`, c.d, false, c.other, api.OK, 0)
	}
	for _, verb := range verbs() {
		if verb != "$setOnInsert" && verb != "$rename" && verb != "$pullAll" {
			u := made(t, parsed(t, `{"`+verb+`":{"a":1}}`), api.Value{})
			v, _ := applied(t, u, parsed(t, `{"b":1}`), true)
			w, _ := applied(t, u, parsed(t, `{"b":1}`), false)
			if !jsonval.Equal(v, w) {
				t.Errorf("%s: %s and %s", verb, full(v), full(w))
			}
		}
	}
}

// P5.3: $inc and $mul, up to 64 bits and beyond.
func TestIncAndMul(t *testing.T) {
	const most, least = "9223372036854775807", "-9223372036854775808"
	for _, c := range []struct{ verb, x, n, want string }{
		{"$inc", "3", "4", "7"}, {"$inc", "-3", "1", "-2"}, {"$inc", "0", "5", "5"}, {"$inc", most, "0", most}, {"$inc", most, "1", ""}, {"$inc", "1", most, ""}, {"$inc", "-1", most, "9223372036854775806"}, {"$inc", most, least, "-1"}, {"$inc", least, most, "-1"}, {"$inc", least, "-1", ""}, {"$inc", "-1", least, ""}, {"$inc", least, "0", least}, {"$inc", "0", least, least}, {"$inc", least, least, ""}, {"$inc", most, most, ""}, {"$inc", "1", least, "-9223372036854775807"},
		{"$mul", "3", "4", "12"}, {"$mul", "-3", "4", "-12"}, {"$mul", "0", most, "0"}, {"$mul", most, "0", "0"}, {"$mul", "1", least, least}, {"$mul", least, "1", least}, {"$mul", "-1", least, ""}, {"$mul", least, "-1", ""}, {"$mul", "-1", most, "-9223372036854775807"}, {"$mul", "2", "4611686018427387904", ""}, {"$mul", "-2", "4611686018427387904", least}, {"$mul", "2", "-4611686018427387904", least}, {"$mul", "2", "4611686018427387903", "9223372036854775806"}, {"$mul", "4294967296", "4294967296", ""}, {"$mul", "4294967296", "2147483648", ""}, {"$mul", "-4294967296", "2147483648", least}, {"$mul", "3037000500", "3037000500", ""}, {"$mul", "3037000499", "3037000499", "9223372030926249001"}, {"$mul", most, most, ""}, {"$mul", least, least, ""}, {"$mul", most, least, ""}, {"$mul", "4", least, ""},
	} {
		row := outcome{ops: `{"$set":{"b":0},"` + c.verb + `":{"a":` + c.x + `}}`, d: `{"a":` + c.n + `,"b":0}`, want: `{"a":` + c.want + `,"b":0}`}
		if c.want == "" {
			row.e, row.at = api.ErrOverflow, 1
		}
		checkAll(t, []outcome{row})
	}
	for _, v := range []string{`null`, `true`, `"1"`, `[1]`, `{"a":1}`} {
		checkAll(t, []outcome{{ops: `{"$inc":{"a":1}}`, d: `{"a":` + v + `}`, e: api.ErrKind}, {ops: `{"$mul":{"a":1}}`, d: `{"a":` + v + `}`, e: api.ErrKind}})
	}
	checkAll(t, []outcome{
		{ops: `{"$inc":{"a.b":-7}}`, d: `{}`, want: `{"a":{"b":-7}}`},
		{ops: `{"$mul":{"a.b":-7}}`, d: `{}`, want: `{"a":{"b":0}}`},
		{ops: `{"$inc":{"a.1":3}}`, d: `{"a":[1]}`, want: `{"a":[1,3]}`},
		{ops: `{"$mul":{"a.1":3}}`, d: `{"a":[1,2]}`, want: `{"a":[1,6]}`},
		{ops: `{"$inc":{"a.b":1}}`, d: `{"a":1}`, e: api.ErrCross},
		{ops: `{"$mul":{"a.2":1}}`, d: `{"a":[1]}`, e: api.ErrIndex},
		{ops: `{"$inc":{"a":0}}`, d: `{}`, want: `{"a":0}`},
	})
}

// P5.3: $min and $max go by the order over all values.
func TestMinAndMax(t *testing.T) {
	rising := []string{`null`, `-1`, `0`, `5`, `""`, `"a"`, `"ab"`, `{}`, `{"a":1}`, `{"a":2}`, `{"b":0}`, `[]`, `[1]`, `[1,1]`, `false`, `true`}
	for i, a := range rising {
		for j, b := range rising {
			checkAll(t, []outcome{
				{ops: `{"$min":{"x":` + a + `}}`, d: `{"x":` + b + `,"y":0}`, want: `{"x":` + rising[min(i, j)] + `,"y":0}`},
				{ops: `{"$max":{"x":` + a + `}}`, d: `{"x":` + b + `,"y":0}`, want: `{"x":` + rising[max(i, j)] + `,"y":0}`},
			})
		}
		checkAll(t, []outcome{
			{ops: `{"$min":{"x":` + a + `}}`, d: `{}`, want: `{"x":` + a + `}`},
			{ops: `{"$max":{"x.1":` + a + `}}`, d: `{"x":[0]}`, want: `{"x":[0,` + a + `]}`},
			{ops: `{"$min":{"x.1":` + a + `}}`, d: `{"x":[]}`, e: api.ErrIndex},
			{ops: `{"$max":{"x.y":` + a + `}}`, d: `{"x":1}`, e: api.ErrCross},
		})
	}
}

// P5.3: $rename.
func TestRename(t *testing.T) {
	checkAll(t, []outcome{
		{ops: `{"$rename":{"a":"c"}}`, d: `{"a":1,"b":2}`, want: `{"b":2,"c":1}`},
		{ops: `{"$rename":{"a":"c"}}`, d: `{"a":1,"b":2,"c":3,"d":4}`, want: `{"b":2,"c":1,"d":4}`},
		{ops: `{"$rename":{"x":"c"}}`, d: `{"a":1,"c":3}`, want: `{"a":1,"c":3}`},
		{ops: `{"$rename":{"x":"a.b","y.z":"a.c"}}`, d: `{"a":1}`, want: `{"a":1}`},
		{ops: `{"$rename":{"a.b":"c.d.e"}}`, d: `{"a":{"b":[1],"x":2}}`, want: `{"a":{"x":2},"c":{"d":{"e":[1]}}}`},
		{ops: `{"$rename":{"a.b":"a.c"}}`, d: `{"a":{"b":1,"x":2}}`, want: `{"a":{"x":2,"c":1}}`},
		{ops: `{"$rename":{"l.0":"x"}}`, d: `{"l":[1,2]}`, want: `{"l":[null,2],"x":1}`},
		{ops: `{"$rename":{"l.0":"l.1"}}`, d: `{"l":[1,2]}`, want: `{"l":[null,1]}`},
		{ops: `{"$rename":{"x":"l.2"}}`, d: `{"l":[1,2],"x":3}`, want: `{"l":[1,2,3]}`},
		{ops: `{"$rename":{"a":"b"}}`, d: `{"a":null}`, want: `{"b":null}`},
		{ops: `{"$rename":{"a":"b.c"}}`, d: `{"a":1,"b":2}`, e: api.ErrCross},
		{ops: `{"$rename":{"a":"b.3"}}`, d: `{"a":1,"b":[2]}`, e: api.ErrIndex},
		{ops: `{"$set":{"y":1,"z":1},"$rename":{"a":"b.x"}}`, d: `{"a":1,"b":[2]}`, e: api.ErrCross, at: 2},
		{ops: `{"$rename":{"a":"b","c":"d"}}`, d: `{"a":1,"c":2}`, want: `{"b":1,"d":2}`},
	})
}

// P5.3: $push, of a value and of a batch.
func TestPush(t *testing.T) {
	for _, c := range []struct{ items, operand, want string }{
		{`[]`, `1`, `[1]`}, {`[1,2]`, `1`, `[1,2,1]`}, {`[1]`, `[2,3]`, `[1,[2,3]]`}, {`[1]`, `{}`, `[1,{}]`}, {`[1]`, `null`, `[1,null]`}, {`[1]`, `{"x":1,"$each":[2],"$slice":0,"$position":0}`, `[1,{"x":1,"$each":[2],"$slice":0,"$position":0}]`},
		{`[1]`, `{"$each":[]}`, `[1]`}, {`[1]`, `{"$each":[2,3]}`, `[1,2,3]`}, {`[1]`, `{"$each":[{"$x":1},[2]]}`, `[1,{"$x":1},[2]]`},
		{`[1,2,3]`, `{"$each":[8,9],"$position":0}`, `[8,9,1,2,3]`}, {`[1,2,3]`, `{"$each":[8,9],"$position":2}`, `[1,2,8,9,3]`}, {`[1,2,3]`, `{"$each":[8,9],"$position":3}`, `[1,2,3,8,9]`}, {`[1,2,3]`, `{"$each":[8,9],"$position":4}`, `[1,2,3,8,9]`}, {`[1,2,3]`, `{"$each":[8,9],"$position":9223372036854775807}`, `[1,2,3,8,9]`},
		{`[1,2,3]`, `{"$each":[8,9],"$position":-1}`, `[1,2,8,9,3]`}, {`[1,2,3]`, `{"$each":[8,9],"$position":-3}`, `[8,9,1,2,3]`}, {`[1,2,3]`, `{"$each":[8,9],"$position":-4}`, `[8,9,1,2,3]`}, {`[1,2,3]`, `{"$each":[8,9],"$position":-9223372036854775808}`, `[8,9,1,2,3]`},
		{`[1,2,3]`, `{"$each":[8],"$slice":0}`, `[]`}, {`[1,2,3]`, `{"$each":[8],"$slice":1}`, `[1]`}, {`[1,2,3]`, `{"$each":[8],"$slice":4}`, `[1,2,3,8]`}, {`[1,2,3]`, `{"$each":[8],"$slice":5}`, `[1,2,3,8]`}, {`[1,2,3]`, `{"$each":[8],"$slice":9223372036854775807}`, `[1,2,3,8]`},
		{`[1,2,3]`, `{"$each":[8],"$slice":-1}`, `[8]`}, {`[1,2,3]`, `{"$each":[8],"$slice":-4}`, `[1,2,3,8]`}, {`[1,2,3]`, `{"$each":[8],"$slice":-5}`, `[1,2,3,8]`}, {`[1,2,3]`, `{"$each":[8],"$slice":-9223372036854775808}`, `[1,2,3,8]`},
		{`[1,2,3]`, `{"$each":[],"$slice":2}`, `[1,2]`}, {`[1,2,3]`, `{"$slice":-2,"$each":[]}`, `[2,3]`}, {`[1,2,3]`, `{"$slice":2,"$position":1,"$each":[8,9]}`, `[1,8]`}, {`[1,2,3]`, `{"$position":-1,"$slice":-2,"$each":[8,9]}`, `[9,3]`},
		{``, `1`, `[1]`}, {``, `{"$each":[]}`, `[]`}, {``, `{"$each":[1,1]}`, `[1,1]`}, {``, `{"$each":[1,2],"$position":0}`, `[1,2]`}, {``, `{"$each":[1,2],"$position":-1}`, `[1,2]`}, {``, `{"$each":[1,2,3],"$slice":2}`, `[1,2]`}, {``, `{"$each":[1,2,3],"$slice":-1}`, `[3]`}, {``, `{"$each":[1],"$slice":0}`, `[]`},
	} {
		d := `{"z":0,"a":` + c.items + `}`
		if c.items == "" {
			d = `{"z":0}`
		}
		checkAll(t, []outcome{{ops: `{"$push":{"a":` + c.operand + `}}`, d: d, want: `{"z":0,"a":` + c.want + `}`}})
	}
}

// P5.3: $addToSet.
func TestAddToSet(t *testing.T) {
	for _, c := range []struct{ items, operand, want string }{
		{`[]`, `1`, `[1]`}, {`[1,2]`, `1`, `[1,2]`}, {`[1,1]`, `1`, `[1,1]`}, {`[1,1]`, `2`, `[1,1,2]`}, {`[1]`, `"1"`, `[1,"1"]`}, {`[1]`, `[1]`, `[1,[1]]`}, {`[[1]]`, `[1]`, `[[1]]`}, {`[0]`, `false`, `[0,false]`}, {`[null]`, `null`, `[null]`}, {`[""]`, `null`, `["",null]`}, {`[{}]`, `[]`, `[{},[]]`},
		{`[{"a":1,"b":2}]`, `{"b":2,"a":1}`, `[{"a":1,"b":2},{"b":2,"a":1}]`}, {`[{"a":1,"b":2}]`, `{"a":1,"b":2}`, `[{"a":1,"b":2}]`}, {`[]`, `{"a":1,"$each":[2]}`, `[{"a":1,"$each":[2]}]`},
		{`[1]`, `{"$each":[]}`, `[1]`}, {`[1]`, `{"$each":[2,1,3,2]}`, `[1,2,3]`}, {`[1]`, `{"$each":[[2],[2],2]}`, `[1,[2],2]`}, {`[3,1]`, `{"$each":[1,2,3]}`, `[3,1,2]`}, {`[1]`, `{"$each":[{"$each":[1]}]}`, `[1,{"$each":[1]}]`},
		{``, `1`, `[1]`}, {``, `{"$each":[]}`, `[]`}, {``, `{"$each":[1,2,1]}`, `[1,2]`}, {``, `[1,1]`, `[[1,1]]`},
	} {
		d := `{"z":0,"a":` + c.items + `}`
		if c.items == "" {
			d = `{"z":0}`
		}
		checkAll(t, []outcome{{ops: `{"$addToSet":{"a":` + c.operand + `}}`, d: d, want: `{"z":0,"a":` + c.want + `}`}})
	}
}

// P5.3: $pop and $pullAll.
func TestPopAndPullAll(t *testing.T) {
	for _, c := range []struct{ verb, items, operand, want string }{
		{"$pop", `[1,2,3]`, `1`, `[1,2]`}, {"$pop", `[1,2,3]`, `-1`, `[2,3]`}, {"$pop", `[1]`, `1`, `[]`}, {"$pop", `[1]`, `-1`, `[]`}, {"$pop", `[]`, `1`, `[]`}, {"$pop", `[]`, `-1`, `[]`},
		{"$pullAll", `[1,2,1,3]`, `[1]`, `[2,3]`}, {"$pullAll", `[1,2,1,3]`, `[]`, `[1,2,1,3]`}, {"$pullAll", `[1,2,1,3]`, `[3,2,1,4]`, `[]`}, {"$pullAll", `[]`, `[1]`, `[]`}, {"$pullAll", `[[1],1,"1",null]`, `[[1],null]`, `[1,"1"]`}, {"$pullAll", `[{"a":1,"b":2},{"a":1}]`, `[{"b":2,"a":1},{"a":1}]`, `[{"a":1,"b":2}]`}, {"$pullAll", `[{"$gt":0},5]`, `[{"$gt":0}]`, `[5]`},
	} {
		checkAll(t, []outcome{{ops: `{"` + c.verb + `":{"a":` + c.operand + `}}`, d: `{"a":` + c.items + `,"z":0}`, want: `{"a":` + c.want + `,"z":0}`}})
	}
}

// P5.3: which items $pull takes.
func TestPull(t *testing.T) {
	for _, c := range []struct{ items, operand, want string }{
		{`[1,2,1]`, `1`, `[2]`}, {`[1,[1],"1"]`, `[1]`, `[1,"1"]`}, {`[null,0]`, `null`, `[0]`}, {`["x","y"]`, `"x"`, `["y"]`}, {`[]`, `1`, `[]`}, {`[{},[],{"a":1},null]`, `{}`, `[[],{"a":1},null]`}, {`[[],{}]`, `[]`, `[{}]`}, {`[1,2]`, `[1,2]`, `[1,2]`},
		{`[1,5,9]`, `{"$gt":4}`, `[1]`}, {`[1,5,9]`, `{"$gt":1,"$lt":9}`, `[1,9]`}, {`[1,[5],"5"]`, `{"$gt":4}`, `[1,"5"]`}, {`[1,null]`, `{"$eq":null}`, `[1]`}, {`[1,"a",{}]`, `{"$type":"string"}`, `[1,{}]`}, {`[1,2]`, `{"$exists":true}`, `[]`}, {`[1,2]`, `{"$exists":false}`, `[1,2]`}, {`[1,2,3]`, `{"$in":[1,3]}`, `[2]`}, {`[1,2]`, `{"$not":{"$eq":1}}`, `[1]`}, {`[[1],[2,3],5]`, `{"$size":1}`, `[[2,3],5]`}, {`[[{"a":1}],[{"a":2}]]`, `{"$elemMatch":{"a":1}}`, `[[{"a":2}]]`}, {`[{"a":1},{"a":2}]`, `{"$eq":{"a":1}}`, `[{"a":2}]`},
		{`[{"a":1,"b":2},{"a":2},{"b":1},1,[{"a":1}]]`, `{"a":1}`, `[{"a":2},{"b":1},1,[{"a":1}]]`}, {`[{"a":5},{"a":1},{}]`, `{"a":{"$gte":2}}`, `[{"a":1},{}]`}, {`[{"a":{"b":1}},{"a":[{"b":1}]},{"a":1}]`, `{"a.b":1}`, `[{"a":1}]`}, {`[{},{"a":null},{"a":1},null,[]]`, `{"a":null}`, `[{"a":1},null,[]]`}, {`[{"a":1,"b":1},{"a":1,"b":2}]`, `{"a":1,"b":2}`, `[{"a":1,"b":1}]`}, {`[{"a":{"b":1,"c":2}}]`, `{"a":{"b":1}}`, `[{"a":{"b":1,"c":2}}]`},
		{`[{"a":1},{"b":1},{"c":1},1]`, `{"$or":[{"a":1},{"b":1}]}`, `[{"c":1},1]`}, {`[{"a":1},{"a":1,"b":1}]`, `{"$and":[{"a":1},{"b":1}]}`, `[{"a":1}]`}, {`[{"a":1},{"b":1},2]`, `{"$nor":[{"a":1}]}`, `[{"a":1},2]`}, {`[{"a":1},1]`, `{"$and":[{}]}`, `[1]`},
	} {
		checkAll(t, []outcome{{ops: `{"$pull":{"a":` + c.operand + `}}`, d: `{"a":` + c.items + `,"z":0}`, want: `{"a":` + c.want + `,"z":0}`}})
	}
}

// P5.3: where no list stands: $push and $addToSet begin one where nothing does, the others leave it so.
func TestListsThatAreNone(t *testing.T) {
	operands := map[string]string{"$push": `1`, "$addToSet": `1`, "$pop": `1`, "$pull": `1`, "$pullAll": `[1]`}
	for verb, operand := range operands {
		grows := verb == "$push" || verb == "$addToSet"
		for _, v := range []string{`null`, `1`, `"[]"`, `true`, `{}`, `{"0":1}`} {
			checkAll(t, []outcome{{ops: `{"$set":{"b":1},"` + verb + `":{"a":` + operand + `}}`, d: `{"a":` + v + `}`, e: api.ErrKind, at: 1}})
		}
		rows := []outcome{
			{ops: `{"` + verb + `":{"a.b.c":` + operand + `}}`, d: `{}`, want: `{"a":{"b":{"c":[1]}}}`},
			{ops: `{"` + verb + `":{"a.1":` + operand + `}}`, d: `{"a":[0]}`, want: `{"a":[0,[1]]}`},
			{ops: `{"` + verb + `":{"a.2":` + operand + `}}`, d: `{"a":[0]}`, e: api.ErrIndex},
			{ops: `{"` + verb + `":{"a.b":` + operand + `}}`, d: `{"a":[0]}`, e: api.ErrCross},
			{ops: `{"` + verb + `":{"a.b":` + operand + `}}`, d: `{"a":"b"}`, e: api.ErrCross},
		}
		for i := range rows {
			if !grows {
				rows[i].want, rows[i].e = rows[i].d, api.OK
			}
		}
		checkAll(t, rows)
	}
}

// P5.3: places by parts with $[.
func TestPlaces(t *testing.T) {
	for _, c := range []struct {
		ops, filters, d, want string
		e                     api.Errno
		at                    int
	}{
		{ops: `{"$inc":{"l.$[]":1}}`, d: `{"l":[1,2,3]}`, want: `{"l":[2,3,4]}`},
		{ops: `{"$inc":{"l.$[]":1}}`, d: `{"l":[]}`, want: `{"l":[]}`},
		{ops: `{"$unset":{"l.$[]":1}}`, d: `{"l":[1,2]}`, want: `{"l":[null,null]}`},
		{ops: `{"$inc":{"l.$[].$[]":1}}`, d: `{"l":[[1],[],[2,3]]}`, want: `{"l":[[2],[],[3,4]]}`},
		{ops: `{"$push":{"l.$[].a.$[].b":1}}`, d: `{"l":[{"a":[{},{"b":[2]}]},{"a":[]},{"a":[{"c":1}]}]}`, want: `{"l":[{"a":[{"b":[1]},{"b":[2,1]}]},{"a":[]},{"a":[{"c":1,"b":[1]}]}]}`},
		{ops: `{"$set":{"l.$[].0":9}}`, d: `{"l":[[1],[],{"0":1},{}]}`, want: `{"l":[[9],[9],{"0":9},{"0":9}]}`},
		{ops: `{"$set":{"l.$[].a":9}}`, d: `{"l":[{},1]}`, e: api.ErrCross},
		{ops: `{"$set":{"z":1,"l.$[].1":9}}`, d: `{"l":[[1],[]]}`, e: api.ErrIndex, at: 1},

		{ops: `{"$set":{"l.$[]":1}}`, d: `{}`, e: api.ErrWhere},
		{ops: `{"$set":{"l.$[]":1}}`, d: `{"l":{"0":1}}`, e: api.ErrWhere},
		{ops: `{"$set":{"l.$[]":1}}`, d: `{"l":null}`, e: api.ErrWhere},
		{ops: `{"$unset":{"z":1,"l.0.$[].a":1}}`, d: `{"l":[1]}`, e: api.ErrWhere, at: 1},
		{ops: `{"$set":{"l.$[].a.$[]":1}}`, d: `{"l":[{"a":[1]},{}]}`, e: api.ErrWhere},
		{ops: `{"$pop":{"l.$[].$[]":1}}`, d: `{"l":[]}`, want: `{"l":[]}`},
		{ops: `{"$pop":{"l.$[].a":1}}`, d: `{"l":[1,{},{"a":[1]},[]]}`, want: `{"l":[1,{},{"a":[]},[]]}`},
		{ops: `{"$inc":{"l.$[].$[]":1}}`, d: `{"l":[["x"],1]}`, e: api.ErrWhere},
		{ops: `{"$inc":{"l.$[]":1}}`, d: `{"l":[1,9223372036854775807,"x"]}`, e: api.ErrOverflow},
		{ops: `{"$inc":{"l.$[]":1}}`, d: `{"l":[1,"x",9223372036854775807]}`, e: api.ErrKind},

		{ops: `{"$inc":{"l.$[e]":1}}`, filters: `[{"e":{"$gt":1}}]`, d: `{"l":[1,2,[3],"4"]}`, e: api.ErrKind},
		{ops: `{"$set":{"l.$[e]":0}}`, filters: `[{"e":{"$gt":1}}]`, d: `{"l":[1,2,[3],"4"]}`, want: `{"l":[1,0,0,"4"]}`},
		{ops: `{"$set":{"l.$[e]":0}}`, filters: `[{"e":{"$gt":9}}]`, d: `{"l":[1,2]}`, want: `{"l":[1,2]}`},
		{ops: `{"$set":{"l.$[e]":0}}`, filters: `[{"e":2}]`, d: `{"l":[1,2,[2],{"v":2}]}`, want: `{"l":[1,0,0,{"v":2}]}`},
		{ops: `{"$set":{"l.$[e]":0}}`, filters: `[{"e":null}]`, d: `{"l":[1,null,[]]}`, want: `{"l":[1,0,[]]}`},
		{ops: `{"$set":{"l.$[e]":0}}`, filters: `[{"e.a":null}]`, d: `{"l":[1,{"a":null},{"a":1},{}]}`, want: `{"l":[0,0,{"a":1},0]}`},
		{ops: `{"$set":{"l.$[e].b":0}}`, filters: `[{"e.a.0.c":{"$in":[1,2]}}]`, d: `{"l":[{"a":[{"c":2}]},{"a":[{"c":3}]},{"a":[{},{"c":1}]}]}`, want: `{"l":[{"a":[{"c":2}],"b":0},{"a":[{"c":3}]},{"a":[{},{"c":1}]}]}`},
		{ops: `{"$set":{"l.$[e].a":0}}`, filters: `[{"e":{"a":1}}]`, d: `{"l":[{"a":1},{"a":1,"b":1},{"a":2}]}`, want: `{"l":[{"a":0},{"a":1,"b":1},{"a":2}]}`},
		{ops: `{"$set":{"l.$[e].m.$[f]":0,"m.$[e]":0}}`, filters: `[{"f":{"$lt":3}},{"e.k":{"$ne":1}}]`, d: `{"l":[{"k":1,"m":[1]},{"k":2,"m":[1,5,2]}],"m":[7,{"k":1}]}`, want: `{"l":[{"k":1,"m":[1]},{"k":2,"m":[0,5,0]}],"m":[0,{"k":1}]}`},
		{ops: `{"$set":{"l.$[e].$[]":0}}`, filters: `[{"e":{"$type":"array"}}]`, d: `{"l":[1,[2,3],{}]}`, want: `{"l":[1,[0,0],{}]}`},
		{ops: `{"$set":{"l.$[e].$[]":0}}`, filters: `[{"e":{"$type":"object"}}]`, d: `{"l":[1,[2,3],{}]}`, e: api.ErrWhere},

		{ops: `{"$set":{"l.$[v]":0}}`, filters: `[{"v.v":1}]`, d: `{"l":[1,{"v":1}]}`, want: `{"l":[1,0]}`},
	} {
		if c.filters == "" {
			c.filters = `null`
		}
		checkApplied(t, c.ops, c.filters, c.d, false, c.want, c.e, c.at)
	}
}

// P5.3: each term meets the document behind those ahead, and its places are found ahead of its own changes.
func TestTermByTerm(t *testing.T) {
	checkAll(t, []outcome{
		{ops: `{"$set":{"a.b":[1,2]},"$inc":{"c":1}}`, d: `{}`, want: `{"a":{"b":[1,2]},"c":1}`},
		{ops: `{"$push":{"l.0.a":1},"$set":{"l.$[].b":1}}`, d: `{"l":[]}`, want: `{"l":[{"a":[1],"b":1}]}`},
		{ops: `{"$set":{"l.$[].b":1},"$push":{"l.0.a":1}}`, d: `{"l":[]}`, want: `{"l":[{"a":[1]}]}`},
	})
	checkApplied(t, `{"$inc":{"l.$[e].n":1}}`, `[{"e.n":{"$lt":2}}]`, `{"l":[{"n":0},{"n":1},{"n":2}]}`, false, `{"l":[{"n":1},{"n":2},{"n":2}]}`, api.OK, 0)
	checkApplied(t, `{"$set":{"l.0.k":1},"$inc":{"l.$[e].n":1}}`, `[{"e.k":1}]`, `{"l":[{"n":0},{"n":5}]}`, false, `{"l":[{"n":1,"k":1},{"n":5}]}`, api.OK, 0)
	checkApplied(t, `{"$inc":{"l.$[e].n":1},"$set":{"l.0.k":1}}`, `[{"e.k":1}]`, `{"l":[{"n":0},{"n":5}]}`, false, `{"l":[{"n":0,"k":1},{"n":5}]}`, api.OK, 0)
	checkApplied(t, `{"$rename":{"a":"b"},"$unset":{"l.$[].x":1}}`, `null`, `{"a":1,"l":[{"x":1}]}`, false, `{"l":[{}],"b":1}`, api.OK, 0)
}

// P5.3: MaxPlaces, when all are found: so ErrWhere is told ahead of it.
func TestTooManyPlaces(t *testing.T) {
	numbers := func(n int) string { return `[` + many(n, strconv.Itoa) + `]` }
	ones := func(n int) string { return `[` + many(n, func(int) string { return `0` }) + `]` }
	checkApplied(t, `{"$set":{"l.$[]":0}}`, `null`, `{"l":`+numbers(api.MaxPlaces)+`}`, false, `{"l":`+ones(api.MaxPlaces)+`}`, api.OK, 0)
	checkApplied(t, `{"$set":{"l.$[]":0}}`, `null`, `{"l":`+numbers(api.MaxPlaces+1)+`}`, false, ``, api.ErrBig, 0)
	checkApplied(t, `{"$inc":{"n":1},"$pop":{"l.$[]":1}}`, `null`, `{"l":`+numbers(api.MaxPlaces+1)+`}`, false, ``, api.ErrBig, 1)
	checkApplied(t, `{"$set":{"l.$[e]":0}}`, `[{"e":{"$lt":256}}]`, `{"l":`+numbers(1000)+`}`, false, `{"l":[`+strings.Repeat("0,", 256)+numbers(1000)[len("["+many(256, strconv.Itoa)+","):]+`}`, api.OK, 0)
	checkApplied(t, `{"$set":{"l.$[e]":0}}`, `[{"e":{"$lt":257}}]`, `{"l":`+numbers(1000)+`}`, false, ``, api.ErrBig, 0)
	checkApplied(t, `{"$inc":{"l.$[].$[]":1}}`, `null`, `{"l":[`+ones(200)+`,[],`+ones(56)+`]}`, false, `{"l":[`+strings.ReplaceAll(ones(200)+`,[],`+ones(56), "0", "1")+`]}`, api.OK, 0)
	checkApplied(t, `{"$inc":{"l.$[].$[]":1}}`, `null`, `{"l":[`+ones(200)+`,[],`+ones(57)+`]}`, false, ``, api.ErrBig, 0)
	checkApplied(t, `{"$inc":{"l.$[].$[]":1}}`, `null`, `{"l":[`+ones(200)+`,[],`+ones(57)+`,1]}`, false, ``, api.ErrWhere, 0)
	checkApplied(t, `{"$inc":{"l.$[].$[]":1}}`, `null`, `{"l":[["x"],`+ones(256)+`]}`, false, ``, api.ErrBig, 0)
	// Many items on the way do not count: places alone do.
	checkApplied(t, `{"$inc":{"l.$[].$[]":1}}`, `null`, `{"l":[`+many(300, func(int) string { return `[]` })+`]}`, false, `{"l":[`+many(300, func(int) string { return `[]` })+`]}`, api.OK, 0)
	checkApplied(t, `{"$setOnInsert":{"l.$[]":0}}`, `null`, `{"l":`+ones(api.MaxPlaces+1)+`}`, false, `{"l":`+ones(api.MaxPlaces+1)+`}`, api.OK, 0)
	checkApplied(t, `{"$setOnInsert":{"l.$[]":0}}`, `null`, `{"l":`+ones(api.MaxPlaces+1)+`}`, true, ``, api.ErrBig, 0)
}

// P5.3: behind each term a document of at most MaxDoc bytes, also if a later one would make it small again.
func TestTooBig(t *testing.T) {
	text := func(n int) string { return strings.Repeat("x", n) }
	const around = len(`{"a":""}`)
	checkAll(t, []outcome{
		{ops: `{"$set":{"a":"` + text(api.MaxDoc-around) + `"}}`, d: `{}`, want: `{"a":"` + text(api.MaxDoc-around) + `"}`},
		{ops: `{"$set":{"a":"` + text(api.MaxDoc-around+1) + `"}}`, d: `{}`, e: api.ErrBig},
		{ops: `{"$set":{"b":1},"$push":{"a":1}}`, d: `{"a":[],"c":"` + text(api.MaxDoc-len(`{"a":[],"c":"","b":1}`)) + `"}`, e: api.ErrBig, at: 1},
		{ops: `{"$set":{"b":"` + text(20) + `"},"$unset":{"a":1}}`, d: `{"a":"` + text(api.MaxDoc-around) + `"}`, e: api.ErrBig},
		{ops: `{"$unset":{"a":1},"$set":{"b":"` + text(20) + `"}}`, d: `{"a":"` + text(api.MaxDoc-around) + `"}`, want: `{"b":"` + text(20) + `"}`},
		{ops: `{"$set":{"l.$[]":"` + text(1000) + `"}}`, d: `{"l":[` + many(17, strconv.Itoa) + `]}`, e: api.ErrBig},
		{ops: `{"$push":{"l":{"$each":["` + text(api.MaxDoc) + `",1],"$slice":-1}}}`, d: `{}`, want: `{"l":[1]}`},
		{ops: `{"$inc":{"n":1}}`, d: `{"n":9,"a":"` + text(api.MaxDoc-len(`{"n":9,"a":""}`)) + `"}`, e: api.ErrBig},
	})
	// Within a term only its end counts: the first place grows and the second is an error of its own.
	checkAll(t, []outcome{{ops: `{"$push":{"l.$[]":"` + text(api.MaxDoc) + `"}}`, d: `{"l":[[],1]}`, e: api.ErrKind}})
}

// P5.3: behind each term a document that is not nested too deep, ahead of its size.
func TestTooDeep(t *testing.T) {
	one := jsonval.Of(1)
	set := func(name string, x api.Value) api.Value { return object("$set", object(name, x)) }
	for _, c := range []struct {
		ops  api.Value
		d    string
		want api.Errno
		at   int
	}{
		{set("a.b.c", nested(61, one)), `{}`, api.OK, 0},
		{set("a.b.c.d", nested(61, one)), `{}`, api.ErrDepth, 0},
		{set("a.0.b.0", nested(60, one)), `{"a":[{"b":[1]}]}`, api.OK, 0},
		{set("a.0.b.0", nested(61, one)), `{"a":[{"b":[1]}]}`, api.ErrDepth, 0},
		{object("$push", object("a.b", nested(61, one))), `{}`, api.OK, 0},
		{object("$push", object("a.b.c", nested(61, one))), `{}`, api.ErrDepth, 0},
		{object("$push", object("a.b.$[].c", nested(61, one))), `{"a":{"b":[{}]}}`, api.ErrDepth, 0},
		{jsonval.Named([]string{"$set", "$unset"}, jsonval.Named([]string{"z", "a.b.c.d"}, one, nested(61, one)), object("x", one)), `{}`, api.ErrDepth, 1},
		{set("a.b.c.d", jsonval.Listed(jsonval.Word(strings.Repeat("x", api.MaxDoc)), nested(60, one))), `{}`, api.ErrDepth, 0},
		{set("a.b.c.d", jsonval.Listed(jsonval.Word(strings.Repeat("x", api.MaxDoc)), nested(59, one))), `{}`, api.ErrBig, 0},
		{parsed(t, `{"$rename":{"a":"b.c.d"}}`), `{"a":` + strings.Repeat("[", 61) + strings.Repeat("]", 61) + `}`, api.OK, 0},
		{parsed(t, `{"$rename":{"a":"b.c.d"}}`), `{"a":` + strings.Repeat("[", 62) + strings.Repeat("]", 62) + `}`, api.ErrDepth, 0},
	} {
		v, changed, e, at := made(t, c.ops, api.Value{}).Apply(parsed(t, c.d), false)
		if e != c.want || at != c.at || changed != (e == api.OK) || isZero(v) != (e != api.OK) {
			t.Errorf("%.200s of %.200s: %.200s, %v, %d at %d; want %d at %d", full(c.ops), c.d, full(v), changed, e, at, c.want, c.at)
		}
	}
}

// P5.3: whether it changed is asked of the whole, behind all terms.
func TestChanged(t *testing.T) {
	checkAll(t, []outcome{
		{ops: `{"$set":{"a":1,"b":2},"$unset":{"c":1}}`, d: `{"a":1,"b":2}`, want: `{"a":1,"b":2}`},
		{ops: `{"$pop":{"a":1},"$inc":{"b":0},"$mul":{"c":1}}`, d: `{"a":[],"b":1,"c":2}`, want: `{"a":[],"b":1,"c":2}`},
		{ops: `{"$pull":{"l":9},"$pullAll":{"m":[9]},"$addToSet":{"n":1}}`, d: `{"l":[1],"m":[1],"n":[1]}`, want: `{"l":[1],"m":[1],"n":[1]}`},
		{ops: `{"$push":{"l":{"$each":[3],"$slice":2}}}`, d: `{"l":[1,2]}`, want: `{"l":[1,2]}`},
		{ops: `{"$rename":{"b":"x"}}`, d: `{"a":1}`, want: `{"a":1}`},
		{ops: `{"$rename":{"b":"a"}}`, d: `{"b":1,"a":1}`, want: `{"a":1}`},
		{ops: `{"$set":{"a":{"y":1,"x":2}}}`, d: `{"a":{"x":2,"y":1}}`, want: `{"a":{"y":1,"x":2}}`},
	})
}
