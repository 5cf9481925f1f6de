package pipe_test

import (
	"strings"
	"testing"

	"docket/api"
	"docket/jsonval"
	"docket/pipe"
)

func checkExpression(t *testing.T, e api.Value, want api.Errno) {
	t.Helper()
	if why := pipe.Check(e); why != want {
		t.Errorf("Check(%.200s): %d, want %d", full(e), why, want)
	}
	// P7.2: Eval tells it first, whatever else there is.
	if want != api.OK {
		for _, d := range []api.Value{{}, odd(9, nil)} {
			if v, why := pipe.Eval(e, d); why != want || !isZero(v) {
				t.Errorf("Eval(%.200s, %s): %s, %d; want %d", full(e), full(d), full(v), why, want)
			}
		}
	}
}

// P7.1.
func TestCheck(t *testing.T) {
	for want, texts := range map[api.Errno][]string{
		api.OK: {
			`null`, `false`, `true`, `0`, `-9223372036854775808`, `""`, `"x"`, `"a..b"`, `"."`, `"x$"`, `" $.x"`,
			`"$"`, `"$a"`, `"$a.b.0"`, `"$0"`, `"$ "`, `"$a.b$"`,
			`[]`, `[1,"$a",[]]`, `{}`, `{"a":1,"b":"$b"}`, `{"":{"$not":[1]}}`, `{"a":1,"$add":2}`, `{"a":1,"$go":"$b","$":3}`, `{"a.b":1,".":2}`,
			`{"$literal":1}`, `{"$literal":"$.x"}`, `{"$literal":{"$go":1,"b":2}}`, `{"$literal":[{"$add":1}]}`,
			`{"$add":[]}`, `{"$add":[1]}`, `{"$add":[1,2,3,4]}`, `{"$multiply":[]}`, `{"$multiply":["$a","x"]}`, `{"$concat":[]}`, `{"$concat":[1,2,3]}`,
			`{"$and":[]}`, `{"$and":[1]}`, `{"$or":[]}`, `{"$or":[1,2,3]}`,
			`{"$subtract":[1,2]}`, `{"$divide":[1,0]}`, `{"$mod":[1,"x"]}`,
			`{"$eq":[1,2]}`, `{"$ne":[1,2]}`, `{"$lt":[1,2]}`, `{"$lte":[1,2]}`, `{"$gt":[1,2]}`, `{"$gte":[1,2]}`,
			`{"$not":[1]}`, `{"$cond":[1,2,3]}`, `{"$ifNull":[1,2]}`, `{"$size":[1]}`, `{"$type":[1]}`, `{"$size":[[1,2]]}`,
		},
		api.ErrExpr: {
			`{"$go":1}`, `{"$go":[]}`, `{"$":[]}`, `{"$Add":[]}`, `{"$add ":[]}`, `{"$literals":[]}`, `{"$match":{}}`, `{"$sum":1}`, `{"$count":{}}`,
			`{"$add":[1],"b":1}`, `{"$literal":1,"b":2}`, `{"$literal":1,"$literals":2}`, `{"$not":[1],"$size":[1]}`,
			`{"$add":1}`, `{"$add":null}`, `{"$add":"$a"}`, `{"$add":{}}`, `{"$add":{"$literal":[1,2]}}`, `{"$not":true}`, `{"$size":"$a"}`, `{"$type":1}`, `{"$cond":{}}`, `{"$and":true}`,
			`{"$subtract":[]}`, `{"$subtract":[1]}`, `{"$subtract":[1,2,3]}`, `{"$divide":[1]}`, `{"$divide":[1,2,3]}`, `{"$mod":[1]}`, `{"$mod":[1,2,3]}`,
			`{"$eq":[1]}`, `{"$eq":[1,2,3]}`, `{"$ne":[1]}`, `{"$lt":[]}`, `{"$lte":[1,2,3]}`, `{"$gt":[1]}`, `{"$gte":[]}`, `{"$gte":[1,2,3]}`,
			`{"$not":[]}`, `{"$not":[1,2]}`, `{"$cond":[1,2]}`, `{"$cond":[1,2,3,4]}`, `{"$ifNull":[1]}`, `{"$ifNull":[1,2,3]}`,
			`{"$size":[]}`, `{"$size":[1,2]}`, `{"$type":[]}`, `{"$type":[1,2]}`,
			// The first from the left, each ahead of what stands in it.
			`[{"$go":1},"$.x"]`, `{"$not":["$.x","$.y"]}`, `{"$go":["$.x"]}`, `{"$add":["$.x"],"b":1}`, `{"a":{"$go":1},"b":"$.x"}`, `{"$add":[1,[{"$size":[]}]]}`,
		},
		api.ErrPath: {
			`"$.x"`, `"$a..b"`, `"$$"`, `"$$a"`, `"$a.$b"`, `"$a."`, `"$."`, `["$.x",{"$go":1}]`, `{"$eq":["$.x",{"$go":1}]}`, `{"a":"$.x","b":{"$go":1}}`, `{"$cond":[1,2,"$.x"]}`, `{"$and":[false,"$.x"]}`,
		},
	} {
		for _, text := range texts {
			checkExpression(t, parsed(t, text), want)
		}
	}
	checkExpression(t, jsonval.Word("$"+strings.Repeat("s", api.MaxSegment)), api.OK)
	checkExpression(t, jsonval.Word("$"+strings.Repeat("s", api.MaxSegment+1)), api.ErrPath)
	checkExpression(t, jsonval.Word("$"+strings.Repeat("a.", api.MaxSegments-1)+"a"), api.OK)
	checkExpression(t, jsonval.Word("$"+strings.Repeat("a.", api.MaxSegments)+"a"), api.ErrPath)
}

// P7.1: at MaxExpr nodes, and beyond.
func TestCheckOfMany(t *testing.T) {
	one, noPath, noOperator := jsonval.Of(1), jsonval.Word("$.x"), object("$go", jsonval.Of(1))
	with := func(n int, last api.Value) []api.Value { return append(several(n-1, one), last) }
	for _, c := range []struct {
		e    api.Value
		want api.Errno
	}{
		{jsonval.Listed(with(api.MaxExpr-1, one)...), api.OK},
		{jsonval.Listed(with(api.MaxExpr, one)...), api.ErrExpr},
		{operation("$add", with(api.MaxExpr-1, one)...), api.OK}, // the list of its operands is no node
		{operation("$add", with(api.MaxExpr, one)...), api.ErrExpr},
		{operation("$add", jsonval.Listed(with(api.MaxExpr-2, one)...)), api.OK},
		{operation("$add", jsonval.Listed(with(api.MaxExpr-1, one)...)), api.ErrExpr},
		{jsonval.Listed(with(api.MaxExpr-1, noPath)...), api.ErrPath},
		{jsonval.Listed(with(api.MaxExpr, noPath)...), api.ErrExpr}, // ahead of its other faults
		{jsonval.Listed(with(api.MaxExpr-1, noOperator)...), api.ErrExpr},
		{jsonval.Listed(append(with(api.MaxExpr-1, noPath), several(9, one)...)...), api.ErrPath},
		{object("$literal", jsonval.Listed(several(3000, one)...)), api.OK},
		{object("$literal", jsonval.Listed(several(3000, noPath)...)), api.OK},
		{jsonval.Listed(with(api.MaxExpr-1, object("$literal", jsonval.Listed(one, one)))...), api.OK},
		{jsonval.Listed(with(api.MaxExpr, object("$literal", one))...), api.ErrExpr},
		{jsonval.Listed(jsonval.Listed(with(127, one)...), jsonval.Listed(with(126, one)...)), api.OK},
		{jsonval.Listed(jsonval.Listed(with(127, one)...), jsonval.Listed(with(127, one)...)), api.ErrExpr},
		{jsonval.Named([]string{"a", "b"}, jsonval.Listed(with(127, one)...), operation("$add", with(126, one)...)), api.OK},
		{jsonval.Named([]string{"a", "b"}, jsonval.Listed(with(127, one)...), operation("$add", with(127, one)...)), api.ErrExpr},
	} {
		checkExpression(t, c.e, c.want)
	}
}

// P7.1: what jsonval.Check refuses, told ahead of all else.
func TestCheckOfOddValues(t *testing.T) {
	one := jsonval.Of(1)
	for want, l := range map[api.Errno][]api.Value{
		api.ErrValue: {
			odd(7, nil), odd(-1, nil), odd(api.Int, nil, one), odd(api.Object, []string{"a"}), odd(api.Object, nil, one), jsonval.Word("$\xff"),
			jsonval.Listed(object("$go", one), odd(9, nil)), object("$literal", odd(9, nil)), operation("$add", one, jsonval.Word("\xff")), object("$\xff", one),
		},
		api.ErrName:  {odd(api.Object, []string{"a", "a"}, one, one), odd(api.Object, []string{"$add", "$add"}, one, one), jsonval.Listed(jsonval.Word("$.x"), odd(api.Object, []string{"a", "a"}, one, one))},
		api.ErrDepth: {nested(api.MaxDepth+1, one), nested(api.MaxDepth, jsonval.Listed()), object("$go", nested(api.MaxDepth, one)), object("$literal", nested(api.MaxDepth, one)), nested(60000, one)},
	} {
		for _, e := range l {
			checkExpression(t, e, want)
		}
	}
	checkExpression(t, nested(api.MaxDepth, one), api.OK)
	checkExpression(t, object("$literal", nested(api.MaxDepth-1, one)), api.OK)
}

const sample = `{"k":"a","n":1,"z":0,"no":null,"f":false,"t":true,"w":"bc","e":"","l":[1,[2],{"q":3}],"o":{"p":{"r":5},"0":6},"big":9223372036854775807,"least":-9223372036854775808}`

// P7.2: what an expression says.
func TestEval(t *testing.T) {
	d := parsed(t, sample)
	for e, want := range map[string]string{
		`"$"`: sample, `"$k"`: `"a"`, `"$x"`: `null`, `"$x.y"`: `null`, `"$no"`: `null`, `"$n.x"`: `null`, `"$l"`: `[1,[2],{"q":3}]`, `"$l.0"`: `1`, `"$l.2.q"`: `3`, `"$l.q"`: `null`, `"$l.3"`: `null`, `"$o.p.r"`: `5`, `"$o.0"`: `6`, `"$o.p"`: `{"r":5}`,
		`"k"`: `"k"`, `""`: `""`, `"x$k"`: `"x$k"`, `null`: `null`, `-7`: `-7`, `true`: `true`, `false`: `false`,
		`[]`: `[]`, `["$k",["$n"],{"a":"$z"},"$x"]`: `["a",[1],{"a":0},null]`, `[{"$add":[1,2]}]`: `[3]`,
		`{}`: `{}`, `{"a":"$k","$n":"$n","b":{"$not":[1]}}`: `{"a":"a","$n":1,"b":false}`, `{"z":1,"a":"$"}`: `{"z":1,"a":` + sample + `}`,
		`{"$literal":"$k"}`: `"$k"`, `{"$literal":{"$add":[1,2]}}`: `{"$add":[1,2]}`, `{"$literal":null}`: `null`, `["x",{"$literal":["$k"]}]`: `["x",["$k"]]`,
		`{"$add":[]}`: `0`, `{"$add":["$n"]}`: `1`, `{"$add":["$n",10,-4]}`: `7`, `{"$add":["$big","$least"]}`: `-1`, `{"$add":["$least","$big",1,0]}`: `0`,
		`{"$multiply":[]}`: `1`, `{"$multiply":[3]}`: `3`, `{"$multiply":[3,-4,2]}`: `-24`, `{"$multiply":["$big",-1]}`: `-9223372036854775807`, `{"$multiply":["$least",1]}`: `-9223372036854775808`, `{"$multiply":[0,"$least",-1]}`: `0`, `{"$multiply":[4611686018427387904,-2]}`: `-9223372036854775808`,
		`{"$subtract":[1,5]}`: `-4`, `{"$subtract":[-1,"$big"]}`: `-9223372036854775808`, `{"$subtract":[-1,"$least"]}`: `9223372036854775807`, `{"$subtract":["$least",0]}`: `-9223372036854775808`,
		`{"$divide":[7,2]}`: `3`, `{"$divide":[-7,2]}`: `-3`, `{"$divide":[7,-2]}`: `-3`, `{"$divide":[-7,-2]}`: `3`, `{"$divide":[0,5]}`: `0`, `{"$divide":["$least",1]}`: `-9223372036854775808`, `{"$divide":["$big",-1]}`: `-9223372036854775807`, `{"$divide":["$least",-2]}`: `4611686018427387904`,
		`{"$mod":[7,2]}`: `1`, `{"$mod":[-7,2]}`: `-1`, `{"$mod":[7,-2]}`: `1`, `{"$mod":[-7,-2]}`: `-1`, `{"$mod":[6,3]}`: `0`, `{"$mod":["$least",-1]}`: `0`, `{"$mod":["$least","$big"]}`: `-1`,
		`{"$concat":[]}`: `""`, `{"$concat":["$k","b"]}`: `"ab"`, `{"$concat":["$w","","$e","$k","é"]}`: `"bcaé"`, `{"$concat":[{"$concat":["x"]},{"$type":[1]}]}`: `"xint"`,
		`{"$eq":["$n",1]}`: `true`, `{"$eq":["$n",2]}`: `false`, `{"$eq":["$n","1"]}`: `false`, `{"$eq":["$x",null]}`: `true`, `{"$eq":["$l",[1,[2],{"q":3}]]}`: `true`, `{"$eq":[{"$literal":{"a":1,"b":2}},{"$literal":{"b":2,"a":1}}]}`: `false`,
		`{"$ne":["$n",1]}`: `false`, `{"$ne":["$n",2]}`: `true`, `{"$ne":[false,0]}`: `true`,
		`{"$lt":[1,2]}`: `true`, `{"$lt":[1,1]}`: `false`, `{"$lt":[2,1]}`: `false`, `{"$lt":[9,"a"]}`: `true`, `{"$lt":[null,-5]}`: `true`, `{"$lt":["a",{}]}`: `true`, `{"$lt":[[],false]}`: `true`,
		`{"$lte":[1,2]}`: `true`, `{"$lte":[1,1]}`: `true`, `{"$lte":[2,1]}`: `false`,
		`{"$gt":[1,2]}`: `false`, `{"$gt":[1,1]}`: `false`, `{"$gt":[2,1]}`: `true`, `{"$gt":[true,false]}`: `true`,
		`{"$gte":[1,2]}`: `false`, `{"$gte":[1,1]}`: `true`, `{"$gte":[2,1]}`: `true`, `{"$gte":["ab","a"]}`: `true`,
		`{"$size":["$l"]}`: `3`, `{"$size":[[]]}`: `0`, `{"$size":[["$x",1]]}`: `2`,
		`{"$type":["$x"]}`: `"null"`, `{"$type":["$f"]}`: `"bool"`, `{"$type":["$t"]}`: `"bool"`, `{"$type":["$n"]}`: `"int"`, `{"$type":["$k"]}`: `"string"`, `{"$type":["$l"]}`: `"array"`, `{"$type":["$"]}`: `"object"`,
	} {
		if v, why := pipe.Eval(parsed(t, e), d); why != api.OK || full(v) != want {
			t.Errorf("Eval(%s): %s, %d; want %s", e, full(v), why, want)
		}
	}
}

// P7.2: truths, and how far is gone.
func TestEvalOfTruths(t *testing.T) {
	d := parsed(t, sample)
	for _, truth := range []string{`1`, `-1`, `""`, `"x"`, `[]`, `[0]`, `{}`, `true`, `"$l"`, `"$"`, `"$e"`} {
		checkTruth(t, d, truth, true)
	}
	for _, truth := range []string{`0`, `null`, `false`, `"$x"`, `"$no"`, `"$z"`, `"$f"`, `{"$add":[]}`} {
		checkTruth(t, d, truth, false)
	}
	const fault = `{"$divide":[1,0]}`
	for e, want := range map[string]string{
		`{"$and":[]}`: `true`, `{"$and":[1,2,3]}`: `true`, `{"$and":[1,0,` + fault + `]}`: `false`, `{"$and":[0,"$.x"]}`: ``,
		`{"$or":[]}`: `false`, `{"$or":[0,null,false]}`: `false`, `{"$or":[0,"x",` + fault + `]}`: `true`, `{"$or":["$z",{"$eq":["$n",1]}]}`: `true`,
		`{"$cond":[0,` + fault + `,5]}`: `5`, `{"$cond":["$n","$k",` + fault + `]}`: `"a"`, `{"$cond":[null,1,"$x"]}`: `null`,
		`{"$ifNull":["$n",` + fault + `]}`: `1`, `{"$ifNull":["$z",7]}`: `0`, `{"$ifNull":["$f",7]}`: `false`, `{"$ifNull":["$x","$k"]}`: `"a"`, `{"$ifNull":["$x","$y"]}`: `null`,
	} {
		if want == "" {
			checkExpression(t, parsed(t, e), api.ErrPath) // what is not gone through is looked at all the same
			continue
		}
		if v, why := pipe.Eval(parsed(t, e), d); why != api.OK || full(v) != want {
			t.Errorf("Eval(%s): %s, %d; want %s", e, full(v), why, want)
		}
	}
}

func checkTruth(t *testing.T, d api.Value, truth string, want bool) {
	t.Helper()
	a := parsed(t, truth)
	for _, c := range []struct {
		e    api.Value
		want api.Value
	}{
		{operation("$and", a), jsonval.Flag(want)},
		{operation("$or", a), jsonval.Flag(want)},
		{operation("$not", a), jsonval.Flag(!want)},
		{operation("$cond", a, jsonval.Flag(want), jsonval.Flag(!want)), jsonval.Flag(true)},
	} {
		if v, why := pipe.Eval(c.e, d); why != api.OK || !jsonval.Equal(v, c.want) {
			t.Errorf("Eval(%s): %s, %d; want %s", full(c.e), full(v), why, full(c.want))
		}
	}
}

// P7.2: the errors, and which of them is the first.
func TestEvalErrors(t *testing.T) {
	d := parsed(t, sample)
	for want, texts := range map[api.Errno][]string{
		api.ErrEval: {
			`{"$add":["$k",1]}`, `{"$add":[1,"$x"]}`, `{"$add":[true]}`, `{"$multiply":["$l"]}`, `{"$multiply":[0,"x"]}`, `{"$subtract":["$k",1]}`, `{"$subtract":[1,"$k"]}`, `{"$divide":["1",1]}`, `{"$divide":[1,null]}`, `{"$mod":[[],1]}`, `{"$mod":[1,{}]}`,
			`{"$concat":["a",1]}`, `{"$concat":["$x"]}`, `{"$concat":[["a"]]}`, `{"$size":["$k"]}`, `{"$size":["$x"]}`, `{"$size":["$o"]}`, `{"$size":[3]}`,
			`{"$divide":["a",0]}`, `{"$mod":[null,0]}`, `{"$add":["$big",1,"x"]}`, `{"$multiply":["$big",2,null]}`, // asked of all operands ahead of the two others
			`[{"$add":["x"]},{"$divide":[1,0]}]`, `{"$add":[{"$size":[1]},{"$divide":[1,0]}]}`, `{"a":{"$size":[1]},"b":{"$divide":[1,0]}}`,
			`{"$cond":[{"$size":[1]},2,3]}`, `{"$cond":[1,{"$size":[1]},3]}`, `{"$and":[1,{"$size":[1]},0]}`, `{"$or":[0,{"$size":[1]},1]}`, `{"$not":[{"$size":[1]}]}`, `{"$ifNull":[{"$size":[1]},1]}`, `{"$ifNull":["$x",{"$size":[1]}]}`, `{"$type":[{"$size":[1]}]}`, `{"$eq":[{"$size":[1]},1]}`,
		},
		api.ErrDivide: {
			`{"$divide":[1,0]}`, `{"$mod":[1,0]}`, `{"$divide":[0,0]}`, `{"$mod":["$least","$z"]}`, `[{"$divide":[1,0]},{"$add":["x"]}]`,
			`{"$add":["x",{"$divide":[1,0]}]}`, // operands ahead of their operator
			`{"$concat":[1,{"$mod":[1,0]}]}`, `{"$divide":[{"$divide":[1,0]},"x"]}`, `{"$size":[{"$divide":[1,0]}]}`, `{"$cond":[0,1,{"$divide":[1,0]}]}`, `{"$ne":[1,{"$mod":[1,0]}]}`,
		},
		api.ErrOverflow: {
			`{"$add":["$big",1]}`, `{"$add":["$least",-1]}`, `{"$add":["$big",1,-1]}`, `{"$add":[1,"$big",-1]}`, `{"$add":["$least","$least"]}`,
			`{"$multiply":["$big",2]}`, `{"$multiply":["$least",-1]}`, `{"$multiply":[-1,"$least"]}`, `{"$multiply":["$big",2,0]}`, `{"$multiply":[4294967296,4294967296]}`, `{"$multiply":[4611686018427387904,2]}`,
			`{"$subtract":["$big",-1]}`, `{"$subtract":["$least",1]}`, `{"$subtract":[0,"$least"]}`, `{"$divide":["$least",-1]}`,
			`{"$divide":[{"$add":["$big",1]},0]}`, `[{"$add":["$big",1]},{"$divide":[1,0]}]`,
		},
	} {
		for _, e := range texts {
			if v, why := pipe.Eval(parsed(t, e), d); why != want || !isZero(v) {
				t.Errorf("Eval(%s): %s, %d; want %d", e, full(v), why, want)
			}
		}
	}
}

// P7.2: of a d that is no value.
func TestEvalOfOddValues(t *testing.T) {
	one := jsonval.Of(1)
	for want, l := range map[api.Errno][]api.Value{
		api.ErrValue: {odd(7, nil), odd(api.Object, []string{"a"}), jsonval.Listed(jsonval.Word("\xff"))},
		api.ErrName:  {odd(api.Object, []string{"a", "a"}, one, one)},
		api.ErrDepth: {nested(api.MaxDepth+1, one), nested(60000, one)},
	} {
		for _, d := range l {
			for _, e := range []string{`1`, `"$"`, `{"$divide":[1,0]}`, `{"$literal":1}`} {
				if v, why := pipe.Eval(parsed(t, e), d); why != want || !isZero(v) {
					t.Errorf("Eval(%s, %.100s): %s, %d; want %d", e, full(d), full(v), why, want)
				}
			}
		}
	}
}

// P7.2: ErrDepth, asked at the end alone.
func TestEvalDeep(t *testing.T) {
	one, whole := jsonval.Of(1), jsonval.Word("$")
	for _, c := range []struct {
		e, d api.Value
		want api.Errno
	}{
		{whole, nested(api.MaxDepth, one), api.OK},
		{jsonval.Listed(whole), nested(api.MaxDepth-1, one), api.OK},
		{jsonval.Listed(whole), nested(api.MaxDepth, one), api.ErrDepth},
		{jsonval.Listed(whole), nested(api.MaxDepth-2, jsonval.Listed()), api.OK},
		{jsonval.Listed(whole), nested(api.MaxDepth-1, jsonval.Listed()), api.ErrDepth}, // an empty list may not stand as deep as a number
		{object("a", whole), nested(api.MaxDepth-1, jsonval.Named(nil)), api.ErrDepth},
		{jsonval.Listed(one, whole, one), nested(api.MaxDepth, one), api.ErrDepth},
		{nested(api.MaxDepth, whole), one, api.OK},
		{nested(api.MaxDepth, whole), jsonval.Listed(), api.ErrDepth},
		{nested(api.MaxDepth-2, jsonval.Listed(object("$literal", jsonval.Listed()))), one, api.ErrDepth}, // it stands too deep in e itself
		{nested(api.MaxDepth-3, jsonval.Listed(object("$literal", jsonval.Listed()))), one, api.OK},       // e as deep as it may be; what it says is not
		{operation("$size", jsonval.Listed(whole, whole)), nested(api.MaxDepth, one), api.OK},             // it was deep on the way alone
		{operation("$eq", nested(40, whole), nested(40, whole)), nested(40, one), api.OK},                 // likewise
		{operation("$cond", one, nested(20, whole), nested(60, whole)), nested(40, one), api.OK},          // the other one is not gone through
		{operation("$cond", jsonval.Of(0), nested(20, whole), nested(60, whole)), nested(40, one), api.ErrDepth},
		{jsonval.Listed(nested(60, whole), operation("$divide", one, jsonval.Of(0))), nested(40, one), api.ErrDivide}, // at the end
		{jsonval.Listed(nested(60, whole), operation("$add", jsonval.Word("x"))), nested(40, one), api.ErrEval},
		{operation("$ifNull", jsonval.Word("$x"), nested(60, jsonval.Word("$a"))), object("a", nested(3, one)), api.OK},
		{operation("$ifNull", jsonval.Word("$x"), nested(60, jsonval.Word("$a"))), object("a", nested(5, one)), api.ErrDepth},
		{operation("$ifNull", jsonval.Word("$x"), nested(60, jsonval.Word("$a.0.0"))), object("a", nested(5, one)), api.OK},
		{operation("$ifNull", jsonval.Word("$x"), nested(60, jsonval.Word("$a.0.0"))), object("a", nested(7, one)), api.ErrDepth},
	} {
		if e := pipe.Check(c.e); e != api.OK && c.want == api.OK {
			t.Fatalf("Check(%s): %d", full(c.e), e)
		}
		if v, why := pipe.Eval(c.e, c.d); why != c.want || why != api.OK && !isZero(v) {
			t.Errorf("Eval(%s, %s): %s, %d; want %d", full(c.e), full(c.d), full(v), why, c.want)
		}
	}
}
