package schema_test

import (
	"strings"
	"testing"

	"docket/api"
	"docket/jsonval"
	"docket/schema"
)

const exampleS = `{'type':'object','required':['n'],'properties':{'n':{'type':'int','minimum':1},'t':{'items':{'type':'string'}}},'additional':false}`

// holdFault: what Fault must tell, as n/1/type, or nothing; and Check with it.
func holdFault(t *testing.T, s *schema.Schema, v api.Value, want string) {
	t.Helper()
	where, word, broken := s.Fault(v)
	if got := tellFault(where, word, broken); got != want || broken != (want != "") {
		t.Errorf("%.300s: %q, not %q", tell(v), got, want)
	}
	e := api.Errno(isOK)
	if want != "" {
		e = isSchema
	}
	if s.Check(v) != e {
		t.Errorf("%.300s: %d, not %d", tell(v), s.Check(v), e)
	}
}

// holdFaults: of each value what the schema's Fault tells.
func holdFaults(t *testing.T, text string, faults map[string]string) {
	t.Helper()
	s := made(t, val(text))
	for v, want := range faults {
		holdFault(t, s, val(v), want)
	}
}

// P21.2, P21.3: the chapter's examples.
func TestExamples(t *testing.T) {
	holdFaults(t, exampleS, map[string]string{`{'n':1}`: "", `{}`: "required", `{'n':0}`: "n/minimum", `{'n':1,'t':['x',2]}`: "t/1/type", `{'n':1,'x':1}`: "additional", `5`: "type"})
	holdFaults(t, `{'not':{'type':'int'}}`, map[string]string{`'x'`: "", `5`: "not"})
	holdFaults(t, `{'anyOf':[{'type':'int'},{'maxLength':1}]}`, map[string]string{`'x'`: "", `'xy'`: "anyOf"})
	holdFaults(t, `{'maxLength':1}`, map[string]string{`'é'`: ""})
}

// P21.2: one rule of each word: the values that keep it, and those that break it.
func TestEachWord(t *testing.T) {
	const every = `null false true 0 'x' [] {}`
	for _, c := range []struct{ rule, kept, broken string }{
		{`'type':'null'`, `null`, `false true 0 'x' 'null' [] [null] {}`}, {`'type':'bool'`, `false true`, `null 0 'x' [] {}`}, {`'type':'int'`, `0 -1 9223372036854775807`, `null false true 'x' '0' [] [0] {}`},
		{`'type':'string'`, `'x' ''`, `null false true 0 [] {}`}, {`'type':'array'`, `[] [1]`, `null false true 0 'x' {}`}, {`'type':'object'`, `{} {'a':1}`, `null false true 0 'x' []`},
		{`'type':['null','bool']`, `null false true`, `0 'x' [] {}`}, {`'type':['object','int','object']`, `{} 5`, `null false true 'x' []`}, {`'type':['null','bool','int','string','array','object']`, every, ``},
		{`'enum':[1,[2],{'a':1,'b':2},null]`, `1 [2] {'a':1,'b':2} null`, `2 -1 '1' [1] [] [[2]] [1,[2]] {'b':2,'a':1} {'a':1} {} false 0 ''`}, {`'enum':['é']`, `'é'`, `'e' '' 'éé'`}, {`'enum':[true]`, `true`, `false 1 'true'`},
		{`'required':[]`, every, ``}, {`'required':['a']`, `{'a':1} {'a':null} {'b':1,'a':2} [] ['b'] 5 'b' null true`, `{} {'b':1} {'A':1} {'aa':1} {'b':{'a':1}}`}, {`'required':['a','b','a']`, `{'a':1,'b':2} {'b':1,'c':2,'a':3}`, `{} {'a':1} {'b':1} {'a':1,'c':2}`}, {`'required':['']`, `{'':1}`, `{} {'a':1}`},
		{`'properties':{}`, every + ` {'a':1}`, ``}, {`'properties':{'a':{'type':'int'}}`, `{} {'a':1} {'b':'x'} {'b':'x','a':1} [] ['x'] 5 'x' null`, `{'a':'x'} {'b':1,'a':null}`},
		{`'additional':true`, every + ` {'a':1}`, ``}, {`'additional':false`, `{} [] [1] 5 'x' null true`, `{'a':1} {'':1} {'additional':1} {'properties':{}}`}, {`'additional':false,'properties':{'a':{},'b':{}}`, `{} {'a':1} {'b':1,'a':2}`, `{'c':1} {'a':1,'c':1} {'c':1,'a':1} {'A':1}`}, {`'properties':{'a':{}},'additional':false`, `{} {'a':1}`, `{'b':1}`}, {`'properties':{'a':{}},'additional':true`, `{} {'a':1} {'b':1}`, ``},
		{`'items':{}`, every + ` [1,'x']`, ``}, {`'items':{'type':'int'}`, `[] [1] [1,2] {} {'a':'x'} 'x' null`, `['x'] [1,'x'] ['x',1] [[1]] [null]`},
		{`'minItems':0`, every + ` [1]`, ``}, {`'minItems':2`, `[1,2] [1,1,1] [[],[]] null 0 'x' {} {'a':1} true`, `[] [1] [[1,2]]`}, {`'maxItems':0`, `[] null 0 'x' {'a':1} true`, `[1] [null]`}, {`'maxItems':2`, `[] [1] [1,2] {'a':1,'b':2,'c':3} 'xyz' 5`, `[1,2,3] [1,1,1,1]`}, {`'maxItems':9223372036854775807`, `[] [1]`, ``}, {`'minItems':9223372036854775807`, `5`, `[] [1]`},
		{`'minLength':0`, every, ``}, {`'minLength':2`, `'ab' 'éé' 'abc' 'é\u0000' [] [1] 1 null {} true`, `'' 'a' 'é' '😀'`}, {`'maxLength':0`, `'' [1] 1 null {} {'a':1}`, `'a' '\u0000'`}, {`'maxLength':2`, `'' 'a' 'éé' '😀😀' '\u0000a' [1,2,3] 100 {}`, `'abc' 'ééé'`}, {`'maxLength':9223372036854775807`, `'a'`, ``}, {`'minLength':4294967296`, `5`, `'' 'abc'`},
		{`'minimum':2`, `2 3 9223372036854775807 '1' [] [1] null {} true false`, `1 0 -2 -9223372036854775808`}, {`'minimum':-9223372036854775808`, `-9223372036854775808 0`, ``}, {`'minimum':9223372036854775807`, `9223372036854775807`, `9223372036854775806 -1`},
		{`'maximum':2`, `2 1 -3 -9223372036854775808 '3' [3] [1,2,3] null {} true`, `3 9223372036854775807`}, {`'maximum':-9223372036854775808`, `-9223372036854775808`, `0 -9223372036854775807`}, {`'maximum':-1`, `-1 -2`, `0 1`},
		{`'divisible':1`, every + ` 7 -7 -9223372036854775808`, ``}, {`'divisible':3`, `0 3 -3 6 -6 9 '7' [7] [1] null {} true`, `1 2 4 -1 -2 -4 7 9223372036854775807`}, {`'divisible':9223372036854775807`, `0 9223372036854775807 -9223372036854775807`, `1 -9223372036854775808`},
		{`'anyOf':[{}]`, every, ``}, {`'anyOf':[{'type':'int'},{'type':'null'}]`, `1 null`, `'x' [] {} true`}, {`'anyOf':[{'minimum':3},{'maximum':1}]`, `3 1 0 4 'x'`, `2`},
		{`'allOf':[{}]`, every, ``}, {`'allOf':[{'minimum':1},{'maximum':3}]`, `1 2 3 'x'`, `0 4`}, {`'allOf':[{'type':'int'},{'enum':[1,'x']}]`, `1`, `2 'x'`},
		{`'not':{}`, ``, every}, {`'not':{'type':'int'}`, `null 'x' [] {} true`, `0 1`}, {`'not':{'not':{'type':'int'}}`, `0 1`, `null 'x'`}, {`'not':{'type':'int','minimum':3}`, `2 'x' null`, `3 4`},
	} {
		s := made(t, val(`{`+c.rule+`}`))
		word, _, _ := strings.Cut(c.rule[1:], `'`)
		for _, v := range strings.Fields(c.kept) {
			holdFault(t, s, val(v), "")
		}
		for _, v := range strings.Fields(c.broken) {
			_, got, broken := s.Fault(val(v))
			if e := s.Check(val(v)); e != isSchema || !broken {
				t.Errorf("{%s} of %s: %d, %v", c.rule, v, e, broken)
			}
			if strings.Count(c.rule, `':`) == 1 && got != word {
				t.Errorf("{%s} of %s: %s", c.rule, v, got)
			}
		}
	}
	for _, v := range strings.Fields(every) {
		holdFault(t, made(t, val(`{}`)), val(v), "")
	}
}

// P21.3: rules by the order of their members; of properties by the schema's order, not the value's; of items by theirs.
func TestOrder(t *testing.T) {
	holdFaults(t, `{'minimum':5,'divisible':2}`, map[string]string{`3`: "minimum", `7`: "divisible", `4`: "minimum", `6`: ""})
	holdFaults(t, `{'divisible':2,'minimum':5}`, map[string]string{`3`: "divisible", `7`: "divisible", `4`: "minimum", `6`: ""})
	holdFaults(t, `{'properties':{'b':{'type':'int'},'a':{'type':'int'}}}`, map[string]string{`{'a':'x','b':'x'}`: "b/type", `{'b':'x','a':'x'}`: "b/type", `{'a':'x','b':1}`: "a/type", `{'c':'x','a':1,'b':2}`: "", `{'a':'x'}`: "a/type"})
	holdFaults(t, `{'items':{'maximum':3,'divisible':2}}`, map[string]string{`[2,4,3]`: "1/maximum", `[1,4]`: "0/divisible", `[2,2,2,2,2,2,2,2,2,2,3]`: "10/divisible", `[2,0]`: "", `[5]`: "0/maximum"})
	holdFaults(t, `{'properties':{'a':{'type':'int'}},'required':['b']}`, map[string]string{`{'a':'x'}`: "a/type", `{'a':1}`: "required", `{'b':1}`: ""})
	holdFaults(t, `{'required':['b'],'properties':{'a':{'type':'int'}}}`, map[string]string{`{'a':'x'}`: "required", `{'a':'x','b':1}`: "a/type"})
	holdFaults(t, `{'additional':false,'properties':{'a':{'type':'int'}}}`, map[string]string{`{'a':'x','b':1}`: "additional", `{'b':1,'a':'x'}`: "additional", `{'a':'x'}`: "a/type"})
	holdFaults(t, `{'properties':{'a':{'type':'int'}},'additional':false}`, map[string]string{`{'a':'x','b':1}`: "a/type", `{'b':1,'a':1}`: "additional"})
	holdFaults(t, `{'items':{'type':'int'},'maxItems':1}`, map[string]string{`['x',1]`: "0/type", `[1,'x']`: "1/type", `[1,1]`: "maxItems"})
	holdFaults(t, `{'maxItems':1,'items':{'type':'int'}}`, map[string]string{`['x',1]`: "maxItems", `['x']`: "0/type"})
}

// P21.3: where: names and numbers, from the outside; all but properties and items are told where the value itself stands.
func TestWhere(t *testing.T) {
	holdFaults(t, `{'properties':{'a':{'properties':{'b':{'items':{'items':{'properties':{'':{'enum':[1]}}}}}}}}}`, map[string]string{
		`{'a':{'b':[[],[{},{'':1},{'':2}]]}}`: "a/b/1/2//enum", `{'a':{'b':[[{'':3}],[{'':2}]]}}`: "a/b/0/0//enum", `{'a':{'b':[[{'':1}],[[]]]}}`: "", `{'a':{'b':{'0':[{'':2}]}}}`: "",
	})
	holdFaults(t, `{'properties':{'a.b':{'type':'int'},'$c':{'type':'int'},'0':{'type':'int'}}}`, map[string]string{`{'a.b':'x'}`: "a.b/type", `{'$c':'x'}`: "$c/type", `{'0':'x'}`: "0/type", `{'a':{'b':'x'}}`: "", `['x']`: ""})
	holdFaults(t, `{'properties':{'a':{'anyOf':[{'properties':{'b':{'type':'int'}}},{'items':{'type':'int'}}]}}}`, map[string]string{`{'a':{'b':'x'}}`: "", `{'a':['x']}`: ""})
	holdFaults(t, `{'properties':{'a':{'anyOf':[{'properties':{'b':{'type':'int'}}},{'type':'array'}]}}}`, map[string]string{`{'a':{'b':'x'}}`: "a/anyOf", `{'a':{'b':1}}`: ""})
	holdFaults(t, `{'items':{'allOf':[{'properties':{'b':{'type':'int'}}},{'type':'object'}]}}`, map[string]string{`[{'b':1},{'b':'x'}]`: "1/allOf", `[5]`: "0/allOf"})
	holdFaults(t, `{'allOf':[{'items':{'type':'int'}},{'maxItems':1}]}`, map[string]string{`['x']`: "allOf", `[1,1]`: "allOf", `[1]`: ""})
	holdFaults(t, `{'items':{'not':{'properties':{'b':{'type':'int'}}}}}`, map[string]string{`[{'b':'x'},{'b':1}]`: "1/not", `[{'b':'x'}]`: "", `[1]`: "0/not"})
	holdFaults(t, `{'properties':{'a':{'required':['b'],'additional':false,'properties':{'b':{}}}}}`, map[string]string{`{'a':{}}`: "a/required", `{'a':{'b':1,'c':1}}`: "a/additional", `{'c':1,'a':{'b':1}}`: ""})
	holdFaults(t, `{'items':{'minItems':1,'maxLength':1,'minimum':1,'divisible':2}}`, map[string]string{`[[1],[]]`: "1/minItems", `['a','ab']`: "1/maxLength", `[2,0]`: "1/minimum", `[2,4,3]`: "2/divisible"})
}

// P21.3: a list of which each step is a text of its own, and that has nothing ahead of it where the whole breaks a rule.
func TestWhereAlone(t *testing.T) {
	where, word, broken := made(t, val(exampleS)).Fault(val(`{'n':1,'t':['x',2]}`))
	if len(where) != 2 || where[0] != "t" || where[1] != "1" || word != "type" || !broken {
		t.Errorf("%q %q %v", where, word, broken)
	}
	if where, word, broken = made(t, val(exampleS)).Fault(val(`{}`)); len(where) != 0 || word != "required" || !broken {
		t.Errorf("%q %q %v", where, word, broken)
	}
	if where, word, broken = made(t, val(exampleS)).Fault(val(`{'n':1}`)); len(where) != 0 || word != "" || broken {
		t.Errorf("%q %q %v", where, word, broken)
	}
}

// P21.2, P21.3: Values that are none: members as far as both Names and Items go.
func TestOddValues(t *testing.T) {
	int1, text := jsonval.Of(1), jsonval.Word("x")
	for _, c := range []struct {
		schema string
		v      api.Value
		want   string
	}{
		{`{'type':['null','bool','int','string','array','object']}`, api.Value{Kind: 7}, "type"}, {`{'type':['null','bool','int','string','array','object']}`, api.Value{Kind: -1}, "type"}, {`{'not':{'type':'object'}}`, api.Value{Kind: 1 << 40}, ""},
		{`{'enum':[1]}`, api.Value{Kind: api.Int, Int: 1, Text: "x"}, "enum"}, {`{'enum':[{'a':1}]}`, object([]string{"a", "b"}, int1), "enum"}, {`{'enum':[{'a':1}]}`, object([]string{"a"}, int1), ""}, {`{'enum':[null]}`, api.Value{Kind: 7}, "enum"},
		{`{'required':['a']}`, object([]string{"a"}), "required"}, {`{'required':['a']}`, object([]string{"b", "a"}, int1), "required"}, {`{'required':['b']}`, object([]string{"b", "a"}, int1), ""}, {`{'required':['a']}`, object(nil, int1), "required"}, {`{'required':['a']}`, api.Value{Kind: 7}, ""}, {`{'required':['a','b']}`, object([]string{"a", "a"}, int1, int1), "required"}, {`{'required':['a']}`, object([]string{"a", "a"}, int1), ""},
		{`{'additional':false}`, object([]string{"a"}), ""}, {`{'additional':false}`, object(nil, int1), ""}, {`{'additional':false,'properties':{'a':{}}}`, object([]string{"a", "b"}, int1), ""}, {`{'additional':false,'properties':{'a':{}}}`, object([]string{"a", "b"}, int1, int1), "additional"}, {`{'additional':false}`, api.Value{Kind: api.List, Names: []string{"a"}, Items: []api.Value{int1}}, ""},
		{`{'properties':{'a':{'type':'int'}}}`, object([]string{"a"}), ""}, {`{'properties':{'a':{'type':'int'}}}`, object([]string{"b", "a"}, text), ""}, {`{'properties':{'a':{'type':'int'}}}`, object([]string{"a"}, int1, text), ""},
		{`{'properties':{'a':{'type':'int'}}}`, object([]string{"a", "a"}, int1, text), "a/type"}, {`{'properties':{'a':{'type':'int'}}}`, object([]string{"a", "b", "a"}, text, text, int1), "a/type"}, {`{'properties':{'a':{'items':{'type':'int'},'maximum':3}}}`, object([]string{"a", "a"}, jsonval.Of(4), list(text)), "a/maximum"},
		{`{'properties':{'b':{'type':'int'},'a':{'type':'int','maximum':3}}}`, object([]string{"a", "a", "b"}, jsonval.Of(4), text, int1), "a/maximum"}, {`{'properties':{'b':{'type':'int'},'a':{'type':'int','maximum':3}}}`, object([]string{"a", "a", "b"}, text, jsonval.Of(4), int1), "a/type"},
		{`{'properties':{'a':{'type':'int'}}}`, api.Value{Kind: api.List, Names: []string{"a"}, Items: []api.Value{text}}, ""}, {`{'items':{'type':'int'}}`, object([]string{"a"}, text), ""}, {`{'items':{'type':'int'}}`, api.Value{Kind: api.Text, Items: []api.Value{text}}, ""}, {`{'items':{'type':'int'}}`, api.Value{Kind: api.List, Names: []string{"a"}, Items: []api.Value{int1, text}}, "1/type"},
		{`{'minItems':1}`, api.Value{Kind: api.Object}, ""}, {`{'maxItems':0}`, api.Value{Kind: api.Text, Items: []api.Value{int1}}, ""}, {`{'maxItems':1}`, api.Value{Kind: api.List, Names: []string{"a", "b"}, Items: []api.Value{int1}}, ""},
		{`{'maxLength':2}`, api.Value{Kind: api.Text, Text: "\xff\xfe"}, ""}, {`{'maxLength':1}`, api.Value{Kind: api.Text, Text: "\xff\xfe"}, "maxLength"}, {`{'maxLength':1}`, api.Value{Kind: api.Text, Text: "\xe2\x82"}, "maxLength"}, {`{'maxLength':0}`, api.Value{Kind: api.Int, Text: "x"}, ""}, {`{'minLength':1}`, api.Value{Kind: 8}, ""},
		{`{'minimum':1}`, api.Value{Kind: api.Text}, ""}, {`{'maximum':1}`, api.Value{Kind: api.Null, Int: 5}, ""}, {`{'divisible':2}`, api.Value{Kind: api.True, Int: 5}, ""}, {`{'divisible':2}`, api.Value{Kind: api.Int, Int: 5, Text: "x"}, "divisible"},
	} {
		s := made(t, val(c.schema))
		if where, word, broken := s.Fault(c.v); tellFault(where, word, broken) != c.want {
			t.Errorf("%s of %s: %q, not %q", c.schema, tell(c.v), tellFault(where, word, broken), c.want)
		}
		if (s.Check(c.v) == isOK) != (c.want == "") {
			t.Errorf("%s of %s: %d", c.schema, tell(c.v), s.Check(c.v))
		}
	}
}

// P21.3: of many members of one name, which are those of no value, the first that breaks a rule.
func TestManyOfOneName(t *testing.T) {
	s := made(t, val(`{'properties':{'b':{},'a':{'type':'int','maximum':3}}}`))
	v := api.Value{Kind: api.Object}
	for i := range 100 {
		v.Names, v.Items = append(v.Names, []string{"a", "b"}[i%2]), append(v.Items, jsonval.Word("x"))
	}
	for i := range 50 {
		v.Items[2*i] = jsonval.Of(4)
		holdFault(t, s, v, "a/maximum")
		v.Items[2*i] = jsonval.Of(3)
		if i < 49 {
			holdFault(t, s, v, "a/type")
		}
	}
	holdFault(t, s, v, "")
}

// Values far deeper and wider than a schema is.
func TestGreatValues(t *testing.T) {
	deep := nested(60000, jsonval.Of(1))
	holdFault(t, made(t, within(maxSchemas, val(`{'type':'array'}`), "items")), deep, "")
	holdFault(t, made(t, within(maxSchemas, val(`{'type':'int'}`), "items")), deep, "0/0/0/0/0/0/0/0/type")
	holdFault(t, made(t, one("enum", list(nested(60, jsonval.Of(1))))), deep, "enum")
	wide, asked, properties := api.Value{Kind: api.Object}, list(), api.Value{Kind: api.Object}
	for i := range 40000 {
		name := "n" + numbers(i)
		wide.Names, wide.Items = append(wide.Names, name), append(wide.Items, jsonval.Of(int64(i)))
		asked.Items = append(asked.Items, jsonval.Word(name))
		properties.Names, properties.Items = append(properties.Names, name), append(properties.Items, val(`{}`))
	}
	properties.Items[39999] = val(`{'maximum':5}`)
	s := made(t, object([]string{"required", "additional", "properties"}, asked, val(`false`), properties))
	holdFault(t, s, wide, "n39999/maximum")
	wide.Names[7] = "other"
	holdFault(t, s, wide, "required")
}
