package update_test

import (
	"fmt"
	"slices"
	"strconv"
	"strings"
	"testing"

	"docket/api"
	"docket/jsonval"
	"docket/update"
)

// P5.1: the chapter's examples.
func TestParseExamples(t *testing.T) {
	for _, c := range []struct {
		ops  string
		want api.Errno
		at   int
	}{
		{`{"$inc":{"l.$[e].q":10}}`, api.ErrFilters, 1}, {`{"$push":{"t":{"$x":1}}}`, api.ErrGive, 0}, {`{"$pop":{"t":2}}`, api.ErrGive, 0},
		{`{"$set":{"a":1,"a.b":2}}`, api.ErrClash, 1}, {`{"$set":{"l.$[].q":1,"l.0.q":2}}`, api.ErrClash, 1}, {`{"$rename":{"n":"n.x"}}`, api.ErrClash, 0},
		{`{"$go":{}}`, api.ErrVerb, 0}, {`{}`, api.ErrUpdate, 0}, {`{"$set":{}}`, api.ErrUpdate, 0},
	} {
		checkRefused(t, parsed(t, c.ops), api.Value{}, c.want, c.at)
	}
}

// behindTwo is a list of operators in which a verb stands behind two terms of another.
func behindTwo(t *testing.T, verb, given string) api.Value {
	t.Helper()
	ahead := "$set"
	if verb == ahead {
		ahead = "$unset"
	}
	return parsed(t, `{"`+ahead+`":{"y":1,"z":1},"`+verb+`":`+given+`}`)
}

// P5.1: what is no list of operators, ahead of the filters, and which verbs there are.
func TestParseVerbs(t *testing.T) {
	for _, ops := range []string{`null`, `true`, `1`, `"$set"`, `[]`, `[{"$set":{"a":1}}]`, `{}`} {
		checkRefused(t, parsed(t, ops), jsonval.Of(1), api.ErrUpdate, 0)
	}
	operands := map[string]string{"$rename": `"b"`, "$pullAll": `[]`}
	for _, verb := range verbs() {
		operand := operands[verb]
		if operand == "" {
			operand = `1`
		}
		checkRefused(t, parsed(t, `{"`+verb+`":{"a":`+operand+`}}`), api.Value{}, api.OK, 0)
		for _, given := range []string{`{}`, `null`, `1`, `"a"`, `[]`, `[1]`, `true`} {
			checkRefused(t, parsed(t, `{"`+verb+`":`+given+`}`), api.Value{}, api.ErrUpdate, 0)
			checkRefused(t, behindTwo(t, verb, given), api.Value{}, api.ErrUpdate, 2)
		}
	}
	for _, verb := range []string{"", "$", "set", "$Set", "$set ", "$$set", "$go", "a", "$setoninsert", "$addtoset", "$each", "$bit"} {
		for _, given := range []string{`{"a":1}`, `{"a..b":1}`, `{}`, `1`} {
			checkRefused(t, object(verb, parsed(t, given)), api.Value{}, api.ErrVerb, 0)
			checkRefused(t, behindTwo(t, verb, given), api.Value{}, api.ErrVerb, 2)
		}
	}
}

// P5.1: update paths.
func TestParsePaths(t *testing.T) {
	long := strings.Repeat("x", api.MaxSegment)
	for _, name := range []string{"a", "a.b", "0", "a.0.b", "é.ü", "a b", "a$", "a$[]", "a.b$[x]", "a]", "[]", "a.$[]", "a.$[].b", "a.$[].$[]", long, "a.$[]." + long, strings.Repeat("a.", api.MaxSegments-1) + "a", strings.Repeat("a.", api.MaxSegments-1) + "$[]", "\x00", "a.\n"} {
		checkRefused(t, object("$set", object(name, jsonval.Of(1))), api.Value{}, api.OK, 0)
	}
	for _, name := range []string{"", ".", "a.", ".a", "a..b", "$a", "a.$b", "$", "a.$", "$[]", "$[].a", "$[x].a", "a.$[", "a.$]", "a.$[x", "a.$x]", "a.$[]]", "a.$[[]", "a.$[x]y", "a.$[x y]", "a.$[x_y]", "a.$[é]", "a.$[$]", "a.$[x.y]", "a.$[-]", "a.$[x\x00]", "a.$[].", "a.$$[]", "a.$[" + long + "x]", "a." + long + "x", long + "x", strings.Repeat("a.", api.MaxSegments) + "a", strings.Repeat("a.", api.MaxSegments) + "$[]", strings.Repeat("é", api.MaxSegment/2) + "x", "a.\u007f.."} {
		for _, verb := range verbs() {
			checkRefused(t, object(verb, object(name, odd(api.Object, []string{"$x"}, jsonval.Of(1)))), api.Value{}, api.ErrPath, 0)
			checkRefused(t, jsonval.Named([]string{verb, "$x"}, object(name, jsonval.Of(7)), jsonval.Of(1)), jsonval.Of(1), api.ErrPath, 0)
		}
	}
	for _, name := range []string{"x", "X", "z9", "0", "az09AZ", long} {
		checkRefused(t, object("$set", object("a.$["+name+"].b.$["+name+"]", jsonval.Of(1))), jsonval.Listed(object(name, jsonval.Of(1))), api.OK, 0)
	}
}

// P5.1: what each verb takes.
func TestParseOperands(t *testing.T) {
	values := []string{`null`, `false`, `true`, `0`, `1`, `-1`, `2`, `9223372036854775807`, `""`, `"b"`, `"b.0.c"`, `[]`, `[1]`, `[{"$x":1}]`, `{}`, `{"b":1}`, `{"b":1,"$x":2}`, `{"":1}`, `{"$each":[]}`, `{"$each":[1,{"$x":1}]}`}
	numbers, lists := values[3:8], values[11:14]
	for verb, taken := range map[string][]string{
		"$set": values, "$setOnInsert": values, "$unset": values, "$min": values, "$max": values, "$push": values, "$addToSet": values,
		"$inc": numbers, "$mul": numbers, "$rename": {`"b"`, `"b.0.c"`}, "$pop": {`1`, `-1`}, "$pullAll": lists,
		"$pull": slices.Concat(values[:15], []string{`{"b":1}`}),
	} {
		for _, v := range values {
			want := api.ErrGive
			switch {
			case slices.Contains(taken, v):
				want = api.OK
			case verb == "$rename" && v == `""`, verb == "$pull" && v == `{"":1}`:
				want = api.ErrPath
			case verb == "$pull":
				want = api.ErrOperator
			}
			checkRefused(t, parsed(t, `{"`+verb+`":{"a":`+v+`}}`), api.Value{}, want, 0)
			at := 2
			if want == api.OK {
				at = 0
			}
			checkRefused(t, behindTwo(t, verb, `{"a":`+v+`}`), api.Value{}, want, at)
		}
	}
}

// P5.1: batches of $push, and $each of $addToSet.
func TestParseBatches(t *testing.T) {
	for batch, want := range map[string]struct{ push, add api.Errno }{
		`{"$each":[]}`:                           {api.OK, api.OK},
		`{"$each":[1],"$position":0}`:            {api.OK, api.ErrGive},
		`{"$each":[1],"$slice":-9}`:              {api.OK, api.ErrGive},
		`{"$slice":1,"$position":2,"$each":[1]}`: {api.OK, api.ErrGive},
		`{"$position":9223372036854775807,"$each":[],"$slice":-9223372036854775808}`: {api.OK, api.ErrGive},
		`{"$position":1}`:               {api.ErrGive, api.ErrGive},
		`{"$slice":1}`:                  {api.ErrGive, api.ErrGive},
		`{"$position":1,"$slice":1}`:    {api.ErrGive, api.ErrGive},
		`{"$each":1}`:                   {api.ErrGive, api.ErrGive},
		`{"$each":null}`:                {api.ErrGive, api.ErrGive},
		`{"$each":{}}`:                  {api.ErrGive, api.ErrGive},
		`{"$each":{"$each":[]}}`:        {api.ErrGive, api.ErrGive},
		`{"$each":[],"$position":null}`: {api.ErrGive, api.ErrGive},
		`{"$each":[],"$position":"1"}`:  {api.ErrGive, api.ErrGive},
		`{"$each":[],"$position":[]}`:   {api.ErrGive, api.ErrGive},
		`{"$each":[],"$slice":true}`:    {api.ErrGive, api.ErrGive},
		`{"$each":[],"$x":1}`:           {api.ErrGive, api.ErrGive},
		`{"$each":[],"x":1}`:            {api.ErrGive, api.ErrGive},
		`{"$each":[],"":1}`:             {api.ErrGive, api.ErrGive},
		`{"$each":[],"$sort":1}`:        {api.ErrGive, api.ErrGive},
		`{"$x":1}`:                      {api.ErrGive, api.ErrGive},
		`{"$":1}`:                       {api.ErrGive, api.ErrGive},
		`{"$Each":[]}`:                  {api.ErrGive, api.ErrGive},
		`{"$and":[{}]}`:                 {api.ErrGive, api.ErrGive},
		`{"x":1,"$each":1}`:             {api.OK, api.OK},
		`{"each":[],"$position":"1"}`:   {api.OK, api.OK},
		`[{"$x":1}]`:                    {api.OK, api.OK},
		`{"a":{"$x":1}}`:                {api.OK, api.OK},
	} {
		checkRefused(t, parsed(t, `{"$push":{"a":`+batch+`}}`), api.Value{}, want.push, 0)
		checkRefused(t, parsed(t, `{"$addToSet":{"a":`+batch+`}}`), api.Value{}, want.add, 0)
	}
}

// P5.1: $rename has an order of its own.
func TestParseRename(t *testing.T) {
	for _, c := range []struct {
		terms string
		want  api.Errno
		at    int
	}{
		{`{"a":"b"}`, api.OK, 0}, {`{"a.0":"b.1.c"}`, api.OK, 0}, {`{"a":"b","c":"d"}`, api.OK, 0}, {`{"a.b":"a.c"}`, api.OK, 0},
		{`{"a":1}`, api.ErrGive, 0}, {`{"a":["b"]}`, api.ErrGive, 0}, {`{"a":null}`, api.ErrGive, 0}, {`{"a":"b","c":1}`, api.ErrGive, 1},
		{`{"a":""}`, api.ErrPath, 0}, {`{"a":"b..c"}`, api.ErrPath, 0}, {`{"a":"$b"}`, api.ErrPath, 0}, {`{"a":"b.$[]"}`, api.ErrPath, 0}, {`{"a":"b.$[x]"}`, api.ErrPath, 0}, {`{"a":"` + strings.Repeat("b.", 16) + `b"}`, api.ErrPath, 0}, {`{"a":"` + strings.Repeat("b.", 15) + `b"}`, api.OK, 0},
		{`{"a.$[]":"b"}`, api.ErrGive, 0}, {`{"a.$[x].c":"b"}`, api.ErrGive, 0}, {`{"a.$[]":1}`, api.ErrGive, 0}, {`{"a.$[]":"b..c"}`, api.ErrPath, 0}, {`{"a.$[]":"a"}`, api.ErrGive, 0}, {`{"a..b":1}`, api.ErrPath, 0}, {`{"a..b":"c"}`, api.ErrPath, 0},
		{`{"a":"a"}`, api.ErrClash, 0}, {`{"a":"a.b"}`, api.ErrClash, 0}, {`{"a.b":"a"}`, api.ErrClash, 0}, {`{"a":"b","b":"c"}`, api.ErrClash, 1}, {`{"a":"b","c":"a"}`, api.ErrClash, 1}, {`{"a":"b","c":"b"}`, api.ErrClash, 1}, {`{"a":"b","c":"b.d"}`, api.ErrClash, 1}, {`{"a":"b","a.c":"d"}`, api.ErrClash, 1}, {`{"a":"b","c":"d..e"}`, api.ErrPath, 1},
	} {
		checkRefused(t, parsed(t, `{"$rename":`+c.terms+`}`), api.Value{}, c.want, c.at)
	}
	checkRefused(t, parsed(t, `{"$set":{"l.$[].q":1},"$rename":{"n":"l.0"}}`), api.Value{}, api.ErrClash, 1)
	checkRefused(t, parsed(t, `{"$rename":{"n":"l.0"},"$set":{"l.$[].q":1}}`), api.Value{}, api.ErrClash, 1)
	checkRefused(t, parsed(t, `{"$set":{"l.$[].q":1},"$rename":{"n":"l.0.p"}}`), api.Value{}, api.OK, 0)
}

// P5.1: filter.Parse's error of what $pull takes, as a test or as a query, ahead of ErrClash.
func TestParsePull(t *testing.T) {
	for operand, want := range map[string]api.Errno{
		`{"$gt":1}`: api.OK, `{"$gt":1,"$lt":3}`: api.OK, `{"$elemMatch":{"a":1}}`: api.OK, `{"$and":[{"a":1}]}`: api.OK, `{"$or":[{}]}`: api.OK, `{"$nor":[{"a":{"$gt":1}}]}`: api.OK, `{"a":1,"$or":[{}]}`: api.OK, `{"a.b":{"$in":[1]}}`: api.OK, `{}`: api.OK, `[{"$x":1}]`: api.OK,
		`{"$x":1}`: api.ErrOperator, `{"$":1}`: api.ErrOperator, `{"$gt":1,"a":1}`: api.ErrOperator, `{"$gt":1,"$and":[{}]}`: api.ErrOperator, `{"$and":[{}],"$gt":1}`: api.ErrOperator, `{"a":1,"$gt":1}`: api.ErrOperator, `{"a":{"$x":1}}`: api.ErrOperator, `{"$each":[]}`: api.ErrOperator,
		`{"$in":1}`: api.ErrOperand, `{"a":{"$size":-1}}`: api.ErrOperand, `{"$or":[]}`: api.ErrOperand, `{"$or":[1]}`: api.ErrFilter, `{"$not":{}}`: api.ErrFilter, `{"a..b":1}`: api.ErrPath, `{"":1}`: api.ErrPath, `{"a.$[]":1}`: api.ErrPath,
		`{` + many(65, func(i int) string { return `"a` + strconv.Itoa(i) + `":1` }) + `}`: api.ErrMany,
		`{` + many(64, func(i int) string { return `"a` + strconv.Itoa(i) + `":1` }) + `}`: api.OK,
		strings.Repeat(`{"$not":`, 17) + `{"$gt":1}` + strings.Repeat(`}`, 17):             api.ErrNested,
		strings.Repeat(`{"$not":`, 16) + `{"$gt":1}` + strings.Repeat(`}`, 16):             api.OK,
	} {
		at := 1
		if want == api.OK {
			at = 0
		}
		checkRefused(t, parsed(t, `{"$set":{"a":1},"$pull":{"b":`+operand+`}}`), api.Value{}, want, at)
		if want == api.OK {
			want = api.ErrClash
		}
		checkRefused(t, parsed(t, `{"$set":{"a":1},"$pull":{"a":`+operand+`}}`), api.Value{}, want, 1)
		checkRefused(t, parsed(t, `{"$set":{"a":1},"$pull":{"$a":`+operand+`}}`), api.Value{}, api.ErrPath, 1)
	}
}

// P5.1: paths that clash, also across verbs; a part with $[ is like any other.
func TestParseClash(t *testing.T) {
	for _, c := range []struct {
		a, b  string
		clash bool
	}{
		{"a", "b", false}, {"a", "ab", false}, {"a.b", "a.c", false}, {"a.b", "a.bc", false}, {"a.b", "b.a", false}, {"a.0", "a.1", false}, {"a.0", "a.00", false},
		{"a", "a.b", true}, {"a.b.c", "a", true}, {"a.b", "a.b.c", true},
		{"a.$[]", "a.0", true}, {"a.$[]", "a.b", true}, {"a.$[x]", "a.$[y]", true}, {"a.$[x]", "a.$[]", true}, {"a.$[].b", "a.0", true}, {"a.$[]", "a.0.b", true}, {"a.$[].b", "a.0.b", true}, {"a.$[].b", "a.$[x].b.c", true}, {"a.$[].$[]", "a.b.c", true}, {"a", "a.$[x]", true}, {"a.$[].c", "a.b.$[]", true},
		{"a.$[].b", "a.0.c", false}, {"a.$[].b", "a.$[].c", false}, {"a.$[x].b", "a.$[y].c", false}, {"a.$[]", "b.0", false}, {"a.$[].b", "a.c.d", false}, {"a.b.$[]", "a.c.$[]", false}, {"a$[]", "ab", false}, {"a.b$[]", "a.c", false},
	} {
		filters := ""
		for _, name := range []string{"x", "y"} {
			if strings.Contains(c.a+c.b, "$["+name+"]") {
				filters += `,{"` + name + `":1}`
			}
		}
		l := parsed(t, "["+strings.TrimPrefix(filters, ",")+"]")
		want, at := api.OK, 0
		if c.clash {
			want, at = api.ErrClash, 1
		}
		for _, form := range []string{`{"$set":{"%s":1,"%s":1}}`, `{"$inc":{"%s":1},"$unset":{"%s":1}}`, `{"$setOnInsert":{"%s":1},"$pull":{"%s":1}}`} {
			checkRefused(t, parsed(t, fmt.Sprintf(form, c.a, c.b)), l, want, at)
			checkRefused(t, parsed(t, fmt.Sprintf(form, c.b, c.a)), l, want, at)
		}
	}
	checkRefused(t, parsed(t, `{"$set":{"a":1,"b.c":1,"d":1},"$inc":{"e":1,"b":1}}`), api.Value{}, api.ErrClash, 4)
}

// P5.1: MaxSteps, ahead of what else is wrong with that term.
func TestParseSteps(t *testing.T) {
	terms := func(n int) string {
		return many(n, func(i int) string { return `"a` + strconv.Itoa(i) + `":1` })
	}
	checkRefused(t, parsed(t, `{"$set":{`+terms(api.MaxSteps)+`}}`), api.Value{}, api.OK, 0)
	checkRefused(t, parsed(t, `{"$set":{`+terms(api.MaxSteps+1)+`}}`), api.Value{}, api.ErrSteps, api.MaxSteps)
	for _, term := range []string{`"b":1`, `"a..b":1`, `"a0":1`, `"":"x"`} {
		checkRefused(t, parsed(t, `{"$set":{`+terms(api.MaxSteps)+`},"$inc":{`+term+`}}`), api.Value{}, api.ErrSteps, api.MaxSteps)
	}
	checkRefused(t, parsed(t, `{"$set":{`+terms(api.MaxSteps-1)+`},"$inc":{"b":1}}`), api.Value{}, api.OK, 0)
	checkRefused(t, parsed(t, `{"$set":{`+terms(api.MaxSteps-1)+`},"$inc":{"b":""}}`), api.Value{}, api.ErrGive, api.MaxSteps-1)
	checkRefused(t, parsed(t, `{"$set":{`+terms(api.MaxSteps-1)+`},"$rename":{"b":"c"}}`), api.Value{}, api.OK, 0)
	checkRefused(t, parsed(t, `{"$set":{`+terms(api.MaxSteps-1)+`},"$rename":{"b":"c","d":"e"}}`), api.Value{}, api.ErrSteps, api.MaxSteps)
	checkRefused(t, parsed(t, `{"$set":{`+terms(api.MaxSteps)+`},"$go":{"b":1}}`), api.Value{}, api.ErrVerb, api.MaxSteps)
	checkRefused(t, parsed(t, `{"$set":{`+terms(api.MaxSteps)+`},"$inc":{}}`), api.Value{}, api.ErrUpdate, api.MaxSteps)
	checkRefused(t, parsed(t, `{"$set":{`+terms(api.MaxSteps)+`}}`), jsonval.Of(1), api.ErrFilters, api.MaxSteps)
}

// P5.1: the first one is told, verb by verb and term by term, and within a term in the chapter's order.
func TestParseFirst(t *testing.T) {
	for _, c := range []struct {
		ops  string
		want api.Errno
		at   int
	}{
		{`{"$set":{"a..b":1},"$go":1}`, api.ErrPath, 0}, {`{"$go":1,"$set":{"a..b":1}}`, api.ErrVerb, 0}, {`{"$set":{"a":1},"$go":1,"$inc":{"b":""}}`, api.ErrVerb, 1}, {`{"$set":{"a":1},"$inc":{"b":""},"$go":1}`, api.ErrGive, 1}, {`{"$set":1,"$go":1}`, api.ErrUpdate, 0}, {`{"$set":{"a":1,"b":2},"$inc":{},"$go":1}`, api.ErrUpdate, 2},
		{`{"$inc":{"a..b":""}}`, api.ErrPath, 0}, {`{"$set":{"a":1},"$inc":{"a":""}}`, api.ErrGive, 1}, {`{"$set":{"a":1},"$inc":{"a":1,"b":""}}`, api.ErrClash, 1}, {`{"$inc":{"a":1,"b":"","a.c":1}}`, api.ErrGive, 1}, {`{"$set":{"a":1},"$rename":{"a":"b..c"}}`, api.ErrPath, 1}, {`{"$set":{"a":1},"$rename":{"a.$[]":"b"}}`, api.ErrGive, 1},
		{`{"$set":{"a.$[x]":1},"$inc":{"b":""}}`, api.ErrGive, 1}, {`{"$set":{"a.$[x]":1,"b":1}}`, api.ErrFilters, 2}, {`{"$set":{"a.$[x]":1},"$go":{}}`, api.ErrVerb, 1},
	} {
		checkRefused(t, parsed(t, c.ops), api.Value{}, c.want, c.at)
		if c.want != api.ErrFilters {
			checkRefused(t, parsed(t, c.ops), parsed(t, `[{"e":{"$x":1}}]`), c.want, c.at)
		}
	}
}

// P5.1: what is no value, of ops ahead of filters, and both ahead of all else.
func TestParseCheck(t *testing.T) {
	one := jsonval.Of(1)
	bad := map[api.Errno][]api.Value{
		api.ErrValue: {{Kind: 7}, {Kind: -1}, {Kind: api.Text, Text: "\xff"}, {Kind: api.Null, Int: 1}, odd(api.Object, []string{"a"}), odd(api.Object, nil, one), odd(api.List, []string{"a"}), odd(api.Object, []string{"$set"}, odd(api.Object, []string{"\xff"}, one))},
		api.ErrName:  {odd(api.Object, []string{"$set", "$set"}, object("a", one), object("b", one)), object("$set", odd(api.Object, []string{"a", "a"}, one, one))},
		api.ErrDepth: {nested(api.MaxDepth+1, one), object("$set", object("a", nested(api.MaxDepth-1, one)))},
	}
	good := parsed(t, `{"$set":{"a":1,"b":2}}`)
	for want, l := range bad {
		for _, v := range l {
			checkRefused(t, v, api.Value{}, want, 0)
			checkRefused(t, v, jsonval.Of(1), want, 0)
			checkRefused(t, good, v, want, 0)
			checkRefused(t, parsed(t, `{"$go":1}`), v, want, 0)
			checkRefused(t, v, api.Value{Kind: 9, Text: "\xff"}, want, 0)
		}
	}
	checkRefused(t, object("$set", object("a", nested(api.MaxDepth-2, one))), api.Value{}, api.OK, 0)
	checkRefused(t, nested(60000, one), nested(60000, one), api.ErrDepth, 0)
}

// P5.1: filters, one by one, with the number of all terms.
func TestParseFilters(t *testing.T) {
	sixteen := strings.Repeat("a.", api.MaxSegments-1) + "a"
	long := strings.Repeat("x", api.MaxSegment)
	for _, c := range []struct {
		names, filters string
		want           api.Errno
	}{
		{"", `null`, api.OK}, {"", `[]`, api.OK}, {"", `{}`, api.ErrFilters}, {"", `1`, api.ErrFilters}, {"", `"x"`, api.ErrFilters}, {"", `false`, api.ErrFilters}, {"x", `{"x":1}`, api.ErrFilters},
		{"x", `[{"x":1}]`, api.OK}, {"x", `[{"x.a":1}]`, api.OK}, {"x", `[{"x.a.0.b":{"$gt":1}}]`, api.OK}, {"x", `[{"x":{"a":1}}]`, api.OK}, {"x", `[{"x":{"a":1,"$gt":1}}]`, api.OK}, {"x", `[{"x":null}]`, api.OK}, {"x", `[{"x":[]}]`, api.OK}, {"x y", `[{"y":1},{"x":1}]`, api.OK}, {"x x", `[{"x":1}]`, api.OK}, {"0", `[{"0.0":1}]`, api.OK}, {long, `[{"` + long + `":1}]`, api.OK}, {"v", `[{"v.v":1}]`, api.OK},
		{"x", `null`, api.ErrFilters}, {"x", `[]`, api.ErrFilters}, {"x y", `[{"y":1}]`, api.ErrFilters}, {"x y", `[{"x":1}]`, api.ErrFilters}, {"x", `[{"X":1}]`, api.ErrFilters},
		{"x", `[1]`, api.ErrFilters}, {"x", `[null]`, api.ErrFilters}, {"x", `[[]]`, api.ErrFilters}, {"x", `[{}]`, api.ErrFilters}, {"x", `["x"]`, api.ErrFilters}, {"x y", `[{"x":1,"y":1}]`, api.ErrFilters}, {"x", `[{"x.a":1,"x.b":1}]`, api.ErrFilters},
		{"x", `[{"":1}]`, api.ErrFilters}, {"x", `[{"x.":1}]`, api.ErrFilters}, {"x", `[{".x":1}]`, api.ErrFilters}, {"x", `[{".":1}]`, api.ErrFilters}, {"x", `[{"x..a":1}]`, api.ErrFilters}, {"x", `[{"x.a.":1}]`, api.ErrFilters}, {"x", `[{"x.$a":1}]`, api.ErrFilters}, {"x", `[{"x.a.$[]":1}]`, api.ErrFilters}, {"x", `[{"$[x]":1}]`, api.ErrFilters}, {"x", `[{"x_":1}]`, api.ErrFilters}, {"x", `[{"$and":[{"x":1}]}]`, api.ErrFilters}, {long, `[{"` + long + `x":1}]`, api.ErrFilters}, {"x", `[{"x.` + sixteen + `.a":1}]`, api.ErrFilters},
		{"x", `[{"x.` + sixteen + `":1}]`, api.ErrPath}, {"x", `[{"x.` + sixteen[2:] + `":1}]`, api.OK},
		{"x", `[{"x":1},{"x":2}]`, api.ErrFilters}, {"x", `[{"x.a":1},{"x.b":2}]`, api.ErrFilters}, {"x", `[{"x":1},{"x.b":2}]`, api.ErrFilters}, {"x", `[{"x":1},{"y":2}]`, api.ErrFilters}, {"", `[{"x":1}]`, api.ErrFilters}, {"xy", `[{"x":1}]`, api.ErrFilters},
		{"x", `[{"x":{"$x":1}}]`, api.ErrOperator}, {"x", `[{"x":{"$in":1}}]`, api.ErrOperand}, {"x", `[{"x":{"$and":[{}]}}]`, api.ErrOperator}, {"x", `[{"x.a":{"$not":1}}]`, api.ErrFilter}, {"x", `[{"x":{"$elemMatch":{"a..b":1}}}]`, api.ErrPath},
		{"x y", `[{"x":{"$x":1}},{"z":1}]`, api.ErrOperator}, {"x y", `[{"z":1},{"x":{"$x":1}}]`, api.ErrFilters}, {"x y", `[{"x":{"$x":1}}]`, api.ErrOperator}, {"x", `[{"x":1},{"x":{"$x":1}}]`, api.ErrFilters}, {"x", `[{"y":{"$x":1}}]`, api.ErrFilters}, {"x y", `[{"x":1},{"y":{"$x":1}},1]`, api.ErrOperator},
	} {
		terms := `"z":1,"b.$[]":1`
		for i, name := range strings.Fields(c.names) {
			terms += `,"a` + strconv.Itoa(i) + `.b.$[` + name + `].c":1`
		}
		at := 2 + len(strings.Fields(c.names))
		if c.want == api.OK {
			at = 0
		}
		for _, verb := range []string{"$set", "$setOnInsert", "$unset", "$inc", "$push"} {
			checkRefused(t, parsed(t, `{"`+verb+`":{`+terms+`}}`), parsed(t, c.filters), c.want, at)
		}
	}
}

// P5.1: at most MaxSteps filters; a filter's name in a segment, or behind it, does not stand in a part.
func TestParseManyFilters(t *testing.T) {
	name := func(i int) string { return "n" + strconv.Itoa(i) }
	for _, c := range []struct {
		terms, filters int
		want           api.Errno
	}{
		{64, 64, api.OK}, {64, 63, api.ErrFilters}, {64, 65, api.ErrFilters},
	} {
		ops := `{"$set":{` + many(c.terms, func(i int) string { return `"a` + strconv.Itoa(i) + `.$[` + name(i) + `]":1` }) + `}}`
		filters := `[` + many(c.filters, func(i int) string { return `{"` + name(i) + `":1}` }) + `]`
		at := c.terms
		if c.want == api.OK {
			at = 0
		}
		checkRefused(t, parsed(t, ops), parsed(t, filters), c.want, at)
	}
	// 65 that are no filters at all: that there are too many is the same error, but nothing of them is asked.
	checkRefused(t, parsed(t, `{"$set":{"a.$[x]":1}}`), parsed(t, `[{"x":{"$x":1}},`+many(64, func(int) string { return `1` })+`]`), api.ErrFilters, 1)
	checkRefused(t, parsed(t, `{"$set":{"a.b$[x]":1}}`), parsed(t, `[{"x":1}]`), api.ErrFilters, 1)
	checkRefused(t, parsed(t, `{"$set":{"a.b$[x]":1}}`), api.Value{}, api.OK, 0)
	checkRefused(t, parsed(t, `{"$rename":{"a":"b$[x]"}}`), api.Value{}, api.OK, 0)
}

// P5.2.
func TestTermsAndTouches(t *testing.T) {
	for _, c := range []struct {
		ops   string
		terms int
		want  string
	}{
		{`{"$set":{"a":1}}`, 1, "a"}, {`{"$set":{"a":1},"$rename":{"b":"c"}}`, 2, "a b c"}, {`{"$rename":{"b.0":"c.d","e":"f"},"$inc":{"a.$[].x":1}}`, 3, "b.0 c.d e f a.$[].x"},
		{`{"$push":{"z":1,"y":{"$each":[]}},"$setOnInsert":{"x.$[e].w":1},"$pop":{"a":1}}`, 4, "z y x.$[e].w a"}, {`{"$pull":{"b":{"c.d":1}},"$unset":{"a":"e"}}`, 2, "b a"},
	} {
		filters := api.Value{}
		if strings.Contains(c.ops, "$[e]") {
			filters = parsed(t, `[{"e.f":1}]`)
		}
		u := made(t, parsed(t, c.ops), filters)
		if u.Terms() != c.terms || strings.Join(u.Touches(), " ") != c.want {
			t.Errorf("%s: %d, %q", c.ops, u.Terms(), u.Touches())
		}
	}
}

// P5.2 and rule 3: what Touches answers is new each time.
func TestTouchesIsNew(t *testing.T) {
	u := made(t, parsed(t, `{"$set":{"a":1},"$rename":{"b":"c"}}`), api.Value{})
	first := u.Touches()
	clear(first[:cap(first)])
	if second := u.Touches(); strings.Join(second, " ") != "a b c" {
		t.Errorf("%q", second)
	}
	if v, _ := applied(t, u, parsed(t, `{"b":2}`), false); printed(t, v) != `{"a":1,"c":2}` {
		t.Error(printed(t, v))
	}
}

// P5.5.
func TestNilUpdate(t *testing.T) {
	var u *update.Update
	if u.Terms() != 0 || len(u.Touches()) != 0 {
		t.Error(u.Terms(), u.Touches())
	}
	for _, d := range []api.Value{{}, jsonval.Of(1), parsed(t, document), {Kind: 9, Int: 3, Text: "\xff", Names: []string{"a", "a"}, Items: []api.Value{{Kind: -1}}}, nested(1000, jsonval.Of(1)), object("a", jsonval.Word(strings.Repeat("x", api.MaxDoc)))} {
		for _, fresh := range []bool{false, true} {
			before := full(d)
			v, changed, e, at := u.Apply(d, fresh)
			if !jsonval.Equal(v, d) || changed || e != api.OK || at != 0 {
				t.Fatalf("%.300s: %.300s, %v, %d at %d", full(d), full(v), changed, e, at)
			}
			if len(v.Items) > 0 {
				v.Items[0] = jsonval.Word("other")
			}
			if len(v.Names) > 0 {
				v.Names[0] = "other"
			}
			if full(d) != before {
				t.Fatalf("no copy: %.300s is now %.300s", before, full(d))
			}
		}
	}
}

// P5.4.
func TestDocument(t *testing.T) {
	one := jsonval.Of(1)
	filled := func(n int) api.Value { return object("a", jsonval.Word(strings.Repeat("x", n-len(`{"a":""}`)))) }
	for _, c := range []struct {
		d    api.Value
		want api.Errno
	}{
		{odd(api.Object, nil), api.OK}, {parsed(t, document), api.OK}, {object("", one), api.OK}, {object("$set", object("a.b", one)), api.OK},
		{api.Value{}, api.ErrDoc}, {one, api.ErrDoc}, {jsonval.Listed(), api.ErrDoc}, {jsonval.Listed(parsed(t, document)), api.ErrDoc}, {jsonval.Word("{}"), api.ErrDoc}, {jsonval.Flag(true), api.ErrDoc}, {jsonval.Flag(false), api.ErrDoc},
		{api.Value{Kind: 7}, api.ErrValue}, {api.Value{Kind: api.Object, Int: 1}, api.ErrValue}, {odd(api.Object, []string{"a"}), api.ErrValue}, {object("a", jsonval.Word("\xff")), api.ErrValue}, {object("\xff", one), api.ErrValue}, {odd(api.Object, []string{"a", "a"}, one, one), api.ErrName},
		{object("a", nested(api.MaxDepth-1, one)), api.OK}, {object("a", nested(api.MaxDepth, one)), api.ErrDepth}, {nested(api.MaxDepth+1, one), api.ErrDepth}, {jsonval.Listed(jsonval.Word("\xff")), api.ErrValue}, {nested(60000, one), api.ErrDepth},
		{filled(api.MaxDoc), api.OK}, {filled(api.MaxDoc + 1), api.ErrBig}, {filled(4 * api.MaxText), api.ErrBig}, {object("a", jsonval.Word(strings.Repeat("\n", api.MaxDoc/2))), api.ErrBig}, {object("a", jsonval.Word(strings.Repeat("é", api.MaxDoc/2-4))), api.OK}, {object("a", jsonval.Word(strings.Repeat("é", api.MaxDoc/2-3))), api.ErrBig},
		{jsonval.Listed(filled(api.MaxDoc + 1)), api.ErrDoc}, {object("a", jsonval.Listed(filled(api.MaxDoc), nested(api.MaxDepth, one))), api.ErrDepth},
	} {
		if e := update.Document(c.d); e != c.want {
			t.Errorf("Document(%.300s): %d, want %d", full(c.d), e, c.want)
		}
		v, changed, e, at := made(t, parsed(t, `{"$set":{"a":1}}`), api.Value{}).Apply(c.d, false)
		if c.want != api.OK && (e != api.ErrDoc || at != 0 || changed || !isZero(v)) || c.want == api.OK && e != api.OK {
			t.Errorf("Apply(%.300s): %.300s, %v, %d at %d", full(c.d), full(v), changed, e, at)
		}
	}
}
