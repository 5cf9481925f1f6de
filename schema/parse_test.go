package schema_test

import (
	"strings"
	"testing"

	"docket/api"
	"docket/jsonval"
	"docket/schema"
)

// holdAnswers: each text must be answered by Parse with e, and with no schema beside an error.
func holdAnswers(t *testing.T, want api.Errno, texts ...string) {
	t.Helper()
	for _, text := range texts {
		holdAnswer(t, want, val(text))
	}
}

func holdAnswer(t *testing.T, want api.Errno, v api.Value) {
	t.Helper()
	if s, e := schema.Parse(v); e != want || (s != nil) != (want == isOK) {
		t.Errorf("Parse(%.300s): %v, %d, not %d", tell(v), s, e, want)
	}
}

// P21.1: the chapter's examples.
func TestParseExamples(t *testing.T) {
	holdAnswers(t, isRule, `{'kind':1}`, `{'type':[]}`, `{'type':'number'}`, `{'items':5}`, `[]`)
	holdAnswers(t, isOK, `{'not':{'type':'int'}}`, `{'anyOf':[{'type':'int'},{'maxLength':1}]}`, `{'maxLength':1}`)
}

// P21.1: what each word is given, and something else.
func TestWords(t *testing.T) {
	for _, c := range []struct{ word, fit, other string }{
		{"type", `'null' 'bool' 'int' 'string' 'array' 'object' ['null'] ['int','string'] ['int','int'] ['null','bool','int','string','array','object']`, `[] null true 5 {} '' 'number' 'list' 'text' 'Int' 'true' 'int\u0000' ['number'] ['int','number'] ['number','int'] [null] ['int',5] [['int']] {'int':'int'}`},
		{"enum", `[null] [1] [1,1] [[],{},'x',false] [{'kind':1}]`, `[] null 5 'x' {} {'a':1} true`},
		{"required", `[] [''] ['a'] ['a','b','a'] ['é']`, `null 'a' {} {'a':'b'} 5 [1] ['a',null] [null,'a'] [['a']] [{}]`},
		{"properties", `{} {'a':{}} {'a':{},'b':{'type':'int'}} {'':{}} {'properties':{}} {'kind':{}}`, `null [] [{}] 5 'a' true {'a':5} {'a':null} {'a':[]} {'a':{},'b':'x'} {'a':{'kind':1}} {'a':{'type':'x'}} {'kind':1}`},
		{"additional", `true false`, `null 0 1 'true' {} [] [true]`},
		{"items", `{} {'type':'int'} {'items':{}}`, `null [] [{}] 5 'x' true {'kind':1} {'type':5}`},
		{"minItems", `0 1 9223372036854775807`, `-1 -9223372036854775808 null '1' [1] {} true`},
		{"maxItems", `0 1 9223372036854775807`, `-1 -9223372036854775808 null '1' [1] {} true`},
		{"minLength", `0 1 9223372036854775807`, `-1 -9223372036854775808 null '1' [1] {} true`},
		{"maxLength", `0 1 9223372036854775807`, `-1 -9223372036854775808 null '1' [1] {} true`},
		{"minimum", `0 1 -1 -9223372036854775808 9223372036854775807`, `null '1' [1] {} true`},
		{"maximum", `0 1 -1 -9223372036854775808 9223372036854775807`, `null '1' [1] {} true`},
		{"divisible", `1 2 9223372036854775807`, `0 -1 -9223372036854775808 null '1' [1] {} true`},
		{"anyOf", `[{}] [{},{}] [{'type':'int'},{}]`, `[] null {} 5 'x' true [5] [{},5] [null] [[]] [{'kind':1}] [{},{'not':5}]`},
		{"allOf", `[{}] [{},{}] [{'type':'int'},{}]`, `[] null {} 5 'x' true [5] [{},5] [null] [[]] [{'kind':1}] [{},{'not':5}]`},
		{"not", `{} {'not':{}} {'type':'int'}`, `null [] [{}] 5 'x' true {'kind':1} {'minItems':-1}`},
	} {
		for _, given := range strings.Fields(c.fit) {
			holdAnswers(t, isOK, `{'`+c.word+`':`+given+`}`)
		}
		for _, given := range strings.Fields(c.other) {
			holdAnswers(t, isRule, `{'`+c.word+`':`+given+`}`)
		}
	}
	holdAnswers(t, isRule, `{'':1}`, `{'Type':'int'}`, `{'type ':'int'}`, `{'types':'int'}`, `{'minitems':1}`, `{'minProperties':1}`, `{'$and':[{}]}`, `{'oneOf':[{}]}`, `{'const':1}`, `{'null':null}`)
	holdAnswers(t, isRule, `null`, `true`, `5`, `'type'`, `[]`, `[{}]`)
	holdAnswers(t, isOK, `{}`)
}

// P21.1: a value first of all, as deep as one may be.
func TestParseChecks(t *testing.T) {
	int1, bad := jsonval.Of(1), api.Value{Kind: 7}
	for _, c := range []struct {
		v    api.Value
		want api.Errno
	}{
		{bad, isValue}, {api.Value{Kind: -1}, isValue}, {api.Value{Kind: api.Int, Text: "x"}, isValue}, {api.Value{Kind: api.Text, Text: "\xff"}, isValue},
		{one("type", api.Value{Kind: api.Text, Text: "int", Int: 1}), isValue},
		{one("minimum", api.Value{Kind: api.Int, Items: list(int1).Items}), isValue},
		{object([]string{"minimum"}, int1, int1), isValue}, {object([]string{"minimum", "maximum"}, int1), isValue}, {object([]string{"minimum"}), isValue},
		{object([]string{"minimum", "minimum"}, int1, int1), isName}, {object([]string{"\xff"}, int1), isValue},
		{one("properties", object([]string{"a", "b", "a"}, val(`{}`), val(`{}`), val(`{}`))), isName},
		{one("enum", list(bad)), isValue},
		{object([]string{"kind", "enum"}, int1, list(bad)), isValue}, // it stands further right, but ErrRule is asked behind it
		{list(bad), isValue},
		{object([]string{"kind", "kind"}, int1, int1), isName},
		{within(10, object([]string{"a", "a"}, int1, int1), "not"), isName},
		{one("enum", list(nested(62, int1))), isOK}, {one("enum", list(nested(63, int1))), isDepth},
		{nested(65, int1), isDepth}, {within(65, val(`{}`), "not"), isDepth}, {within(63, val(`{}`), "not"), isRules},
	} {
		holdAnswer(t, c.want, c.v)
	}
}

// nested is inner within n lists.
func nested(n int, inner api.Value) api.Value {
	for range n {
		inner = list(inner)
	}
	return inner
}

// P21.1: schemas at the depth MaxSchemas, and deeper; ErrRule ahead of that.
func TestDepth(t *testing.T) {
	for _, word := range []string{"properties", "items", "anyOf", "allOf", "not"} {
		holdAnswer(t, isOK, within(maxSchemas, val(`{}`), word))
		holdAnswer(t, isOK, within(maxSchemas, val(`{'enum':[{'not':{'not':{}}}],'properties':{},'type':'int'}`), word))
		holdAnswer(t, isRules, within(maxSchemas+1, val(`{}`), word))
		holdAnswer(t, isRules, within(maxSchemas+1, val(`{'kind':1}`), word))
		holdAnswer(t, isRules, within(maxSchemas+2, val(`{}`), word))
		holdAnswer(t, isRules, within(maxSchemas+2, val(`5`), word))
		for _, none := range []string{`5`, `null`, `[]`, `'x'`, `[{}]`} {
			holdAnswer(t, isRule, within(maxSchemas, val(none), word))
			holdAnswer(t, isRule, within(maxSchemas+1, val(none), word))
		}
	}
	holdAnswer(t, isOK, within(maxSchemas, val(`{}`), "properties", "items", "anyOf", "allOf", "not"))
	holdAnswer(t, isRules, within(maxSchemas+1, val(`{}`), "properties", "items", "anyOf", "allOf", "not"))
	for _, c := range []struct {
		deepest string
		want    api.Errno
	}{
		{`{'properties':{}}`, isOK}, {`{'properties':{'a':{}}}`, isRules}, {`{'properties':{'a':5}}`, isRule}, {`{'properties':5}`, isRule},
		{`{'properties':{'a':5,'b':{}}}`, isRule}, {`{'properties':{'a':{},'b':5}}`, isRules}, {`{'anyOf':[]}`, isRule}, {`{'anyOf':[5,{}]}`, isRule}, {`{'allOf':[{},5]}`, isRules},
		{`{'not':{},'kind':1}`, isRules}, {`{'kind':1,'not':{}}`, isRule}, {`{'not':{'kind':1}}`, isRules}, {`{'items':{}}`, isRules}, {`{'items':5}`, isRule},
	} {
		holdAnswer(t, c.want, within(maxSchemas, val(c.deepest), "not"))
	}
}

// P21.1: rules up to the number MaxRules, wherever they stand.
func TestRulesNumber(t *testing.T) {
	for _, n := range []int{2, 3, maxRules - 1, maxRules} {
		if got := made(t, crowd(n)).Rules(); got != n {
			t.Error(got, "rules, not", n)
		}
	}
	holdAnswer(t, isRules, crowd(maxRules+1))
	holdAnswer(t, isRules, crowd(maxRules+2))
	holdAnswer(t, isRules, crowd(1000))
	full, short := crowd(maxRules).Items[0], crowd(maxRules - 1).Items[0]
	behind := func(all api.Value, text string) api.Value {
		return object([]string{"allOf", "items"}, all, val(text))
	}
	for _, c := range []struct {
		v    api.Value
		want api.Errno
	}{
		{behind(short, `{}`), isOK}, {behind(short, `5`), isRule}, {behind(short, `{'type':'int'}`), isRules}, {behind(short, `{'kind':1}`), isRules},
		{behind(full, `{}`), isRules}, {behind(full, `5`), isRules},
		{object([]string{"allOf", "kind"}, short, val(`1`)), isRule}, {object([]string{"allOf", "kind"}, full, val(`1`)), isRules},
		{object([]string{"kind", "allOf"}, val(`1`), full), isRule}, {object([]string{"type", "allOf"}, val(`'int'`), full), isRules},
		{object([]string{"allOf", "type"}, short, val(`'x'`)), isRule}, {object([]string{"allOf", "type"}, full, val(`'x'`)), isRules},
		{object([]string{"allOf", "not"}, short, val(`{'kind':1}`)), isRules}, {object([]string{"allOf", "not"}, short, within(8, val(`{}`), "not")), isRules},
		{object([]string{"allOf", "properties"}, short, val(`{'a':{},'b':{},'c':{}}`)), isOK}, {object([]string{"allOf", "properties"}, short, val(`{'a':{},'b':5,'c':{'type':1}}`)), isRule}, {object([]string{"allOf", "properties"}, short, val(`{'a':{'type':1},'b':5}`)), isRules},
		{one("allOf", list(append(crowd(maxRules + 1).Items[0].Items, val(`5`))...)), isRules}, {one("allOf", list(append(list(val(`5`)).Items, crowd(maxRules + 1).Items[0].Items...)...)), isRule},
		{one("enum", full), isOK},
	} {
		holdAnswer(t, c.want, c.v)
	}
}

// P21.1: the first from the left, a rule ahead of what stands in it.
func TestFirstError(t *testing.T) {
	deep := `{'not':{'not':{'not':{'not':{'not':{'not':{'not':{'not':{'not':{}}}}}}}}}}`
	holdAnswers(t, isRules, deep, `{'allOf':[`+deep+`,5]}`, `{'allOf':[`+deep+`,{'kind':1}]}`, `{'not':`+deep+`,'kind':1}`, `{'properties':{'a':`+deep+`,'b':5},'type':5}`)
	holdAnswers(t, isRule, `{'allOf':[5,`+deep+`]}`, `{'allOf':[{'kind':1},`+deep+`]}`, `{'kind':1,'not':`+deep+`}`, `{'type':5,'properties':{'a':`+deep+`}}`, `{'properties':{'b':5,'a':`+deep+`}}`, `{'properties':[`+deep+`]}`, `{'anyOf':{'a':`+deep+`}}`, `{'items':[`+deep+`]}`, `{'kind':`+deep+`}`)
	holdAnswers(t, isOK, `{'enum':[`+deep+`]}`)
	holdAnswers(t, isRule, `{'additional':false,'properties':5}`, `{'properties':5,'additional':false}`, `{'additional':5,'properties':{}}`)
}

// P21.4: all rules, wherever they stand; and a nil Schema.
func TestRules(t *testing.T) {
	for text, want := range map[string]int{
		`{}`: 0, `{'type':'int'}`: 1, `{'type':['int','null'],'enum':[1,{'type':1}]}`: 2, `{'properties':{}}`: 1, `{'properties':{'a':{},'b':{}}}`: 1, `{'properties':{'type':{'type':'int','enum':[1]},'b':{'not':{}}}}`: 4,
		`{'items':{}}`: 1, `{'items':{'items':{'items':{}}}}`: 3, `{'anyOf':[{},{'minimum':1},{'minimum':1,'maximum':1}]}`: 4, `{'allOf':[{'not':{'not':{}}}]}`: 3, `{'required':['a','b'],'additional':false}`: 2,
		exampleS: 8,
	} {
		if got := made(t, val(text)).Rules(); got != want {
			t.Errorf("%s: %d rules, not %d", text, got, want)
		}
	}
	var none *schema.Schema
	for _, v := range []api.Value{{}, jsonval.Of(1), val(`{'a':1}`), {Kind: 9}} {
		where, word, broken := none.Fault(v)
		if none.Check(v) != isOK || len(where) != 0 || word != "" || broken {
			t.Errorf("nil of %s: %d, %q %q %v", tell(v), none.Check(v), where, word, broken)
		}
	}
	if none.Rules() != 0 {
		t.Error(none.Rules())
	}
}
