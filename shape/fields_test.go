package shape_test

import (
	"strconv"
	"strings"
	"testing"

	"docket/api"
	"docket/jsonval"
	"docket/shape"
)

func checkFields(t *testing.T, v api.Value, want api.Errno) {
	t.Helper()
	if f, e := shape.ParseFields(v); e != want || (f == nil) != (want != api.OK) {
		t.Errorf("ParseFields(%.300s): %v, %d; want %d", full(v), f, e, want)
	}
}

// P6.4.
func TestParseFields(t *testing.T) {
	for text, want := range map[string]api.Errno{
		`{}`:                              api.OK,
		`{"a":1}`:                         api.OK,
		`{"a":0}`:                         api.OK,
		`{"a":1,"b":1}`:                   api.OK,
		`{"a.b":0,"a.c":0,"ab":0}`:        api.OK,
		`{"a.b.c":1,"a.b.d":1,"a.c":1}`:   api.OK,
		`{"a.00":1,"01":1,"-1":1,"1x":1}`: api.OK, // these are no indices
		`{"1234567890":1}`:                api.OK,
		`7`:                               api.ErrFields,
		`null`:                            api.ErrFields,
		`[]`:                              api.ErrFields,
		`["a"]`:                           api.ErrFields,
		`"a"`:                             api.ErrFields,
		`true`:                            api.ErrFields,
		`{"a":2}`:                         api.ErrFields,
		`{"a":-1}`:                        api.ErrFields,
		`{"a":true}`:                      api.ErrFields,
		`{"a":false}`:                     api.ErrFields,
		`{"a":null}`:                      api.ErrFields,
		`{"a":"1"}`:                       api.ErrFields,
		`{"a":[]}`:                        api.ErrFields,
		`{"a":{"b":1}}`:                   api.ErrFields,
		`{"a":1,"b":2}`:                   api.ErrFields, // told ahead of ErrBoth
		`{"a":1,"b":0}`:                   api.ErrBoth,
		`{"a":0,"b":1}`:                   api.ErrBoth,
		`{"a":1,"b":1,"c":0}`:             api.ErrBoth,
		`{"a":1,"b":0,"c":2}`:             api.ErrBoth, // member by member
		`{"a":1,"a.b":0}`:                 api.ErrBoth, // told ahead of ErrClash
		`{"a":1,"a.b":1}`:                 api.ErrClash,
		`{"a.b":0,"a":0}`:                 api.ErrClash,
		`{"a.b":1,"c":1,"a.b.c.d":1}`:     api.ErrClash,
		`{"a":1,"a.b":1,"c":0}`:           api.ErrClash,
		`{"a":1,"a.b":2}`:                 api.ErrFields,
		`{"a.0":1}`:                       api.ErrPath,
		`{"0":1}`:                         api.ErrPath,
		`{"a.123456789.b":0}`:             api.ErrPath,
		`{"0.a":1}`:                       api.ErrPath,
		`{"a..b":1}`:                      api.ErrPath,
		`{"":1}`:                          api.ErrPath,
		`{"$a":1}`:                        api.ErrPath,
		`{"a.$":1}`:                       api.ErrPath,
		`{"a.0":7}`:                       api.ErrPath, // told ahead of its item
		`{"a":1,"a.0":1}`:                 api.ErrPath,
		`{"a":1,"b.0":0}`:                 api.ErrPath,
		`{"a":2,"b.0":0}`:                 api.ErrFields,
	} {
		checkFields(t, parsed(t, text), want)
	}
}

// P6.4: at MaxFields, and beyond it, which is told ahead of what the members are.
func TestParseFieldsOfMany(t *testing.T) {
	name := func(i int) string { return "a.b" + strconv.Itoa(i) }
	checkFields(t, many(api.MaxFields, jsonval.Of(1), name), api.OK)
	checkFields(t, many(api.MaxFields, jsonval.Of(0), name), api.OK)
	checkFields(t, many(api.MaxFields+1, jsonval.Of(1), name), api.ErrMany)
	checkFields(t, many(api.MaxFields+1, jsonval.Of(7), name), api.ErrMany)
	checkFields(t, many(api.MaxFields+1, jsonval.Of(1), func(int) string { return "." }), api.ErrMany)
	l := many(api.MaxFields+1, jsonval.Of(1), name)
	l.Kind = api.List
	checkFields(t, l, api.ErrFields)
	deep := strings.Repeat("a.", api.MaxSegments-1)
	checkFields(t, object(deep+"a", jsonval.Of(1)), api.OK)
	checkFields(t, object(deep+"0", jsonval.Of(1)), api.ErrPath)
	checkFields(t, object(deep+"a.a", jsonval.Of(1)), api.ErrPath)
	checkFields(t, object(strings.Repeat("s", api.MaxSegment), jsonval.Of(0)), api.OK)
	checkFields(t, object(strings.Repeat("s", api.MaxSegment+1), jsonval.Of(0)), api.ErrPath)
}

// P6.4: of Values that are no values.
func TestParseFieldsOfOddValues(t *testing.T) {
	one, two := jsonval.Of(1), jsonval.Of(2)
	checkFields(t, odd(api.Object, []string{"a", "a"}, one, one), api.ErrClash)
	checkFields(t, odd(api.Object, []string{"a", "a"}, one, jsonval.Of(0)), api.ErrBoth)
	checkFields(t, odd(api.Object, []string{"a", "b"}, one), api.OK)
	checkFields(t, odd(api.Object, []string{"a"}, one, two), api.OK)
	checkFields(t, odd(api.Object, []string{"a"}), api.OK)
	checkFields(t, odd(api.Object, nil, two), api.OK)
	checkFields(t, odd(7, []string{"a"}, one), api.ErrFields)
	checkFields(t, odd(-1, nil), api.ErrFields)
	checkFields(t, odd(api.Object, []string{"a"}, odd(9, nil)), api.ErrFields)
	checkFields(t, odd(api.Object, []string{"a"}, api.Value{Kind: api.Null}), api.ErrFields)
}

// P6.5.
func TestApply(t *testing.T) {
	for _, c := range []struct{ fields, d, want string }{
		{`{}`, `{"a":1,"b":[2]}`, `{"a":1,"b":[2]}`},
		{`{}`, `[1,{"a":2}]`, `[1,{"a":2}]`},
		{`{}`, `7`, `7`},

		{`{"a.b":1}`, `{"x":1,"a":{"b":2,"c":3}}`, `{"a":{"b":2}}`},
		{`{"a.b":1}`, `{"a":[{"b":1,"c":2},5]}`, `{"a":[{"b":1}]}`},
		{`{"a.b":1}`, `{"a":7}`, `{}`},
		{`{"a.b":1}`, `{"a":null,"b":1}`, `{}`},
		{`{"a.b":1}`, `{"a":{}}`, `{"a":{}}`},
		{`{"a.b":1}`, `{"a":{"c":1}}`, `{"a":{}}`},
		{`{"a.b":1}`, `{"a":[]}`, `{"a":[]}`},
		{`{"a.b":1}`, `{"a":[5,"x",null,true]}`, `{"a":[]}`},
		{`{"a.b":1}`, `{"a":[[{"b":1,"c":2},3],{"c":1},[],[[{"b":[7]}]]]}`, `{"a":[[{"b":1}],{},[],[[{"b":[7]}]]]}`},
		{`{"a":1}`, `{"x":1,"a":[1,{"b":2}],"y":2}`, `{"a":[1,{"b":2}]}`},
		{`{"a":1}`, `{"a":null}`, `{"a":null}`},
		{`{"a":1}`, `{"b":1}`, `{}`},
		{`{"a":1}`, `{}`, `{}`},
		{`{"b":1,"a":1}`, `{"a":1,"x":0,"b":2}`, `{"a":1,"b":2}`}, // in the document's order
		{`{"a":1}`, `{"b":{"a":1},"A":1}`, `{}`},
		{`{"a":1}`, `[{"a":1,"b":2},5,[{"a":3,"b":4},6],"x"]`, `[{"a":1},[{"a":3}]]`},
		{`{"a":1}`, `7`, `7`},
		{`{"a":1}`, `null`, `null`},
		{`{"a":1}`, `"a"`, `"a"`},
		{`{"a.b":1,"a.c":1,"d":1}`, `{"a":{"c":1,"x":0,"b":2},"d":{"y":1},"e":0}`, `{"a":{"c":1,"b":2},"d":{"y":1}}`},
		{`{"a.b.c":1,"a.d":1}`, `{"a":{"b":{"c":1,"x":0},"d":2,"e":3}}`, `{"a":{"b":{"c":1},"d":2}}`},
		{`{"a.b.c":1}`, `{"a":{"b":7}}`, `{"a":{}}`},
		{`{"a.b.c":1}`, `{"a":[{"b":[{"c":1},{"x":2},3]},{"b":4}]}`, `{"a":[{"b":[{"c":1},{}]},{}]}`},

		{`{"a.b":0}`, `{"x":1,"a":{"b":2,"c":3}}`, `{"x":1,"a":{"c":3}}`},
		{`{"a.b":0}`, `{"a":[{"b":1},5]}`, `{"a":[{},5]}`},
		{`{"a.b":0}`, `{"a":7}`, `{"a":7}`},
		{`{"a.b":0}`, `{"a":null}`, `{"a":null}`},
		{`{"a.b":0}`, `{"a":{"b":1}}`, `{"a":{}}`},
		{`{"a.b":0}`, `{"a":[]}`, `{"a":[]}`},
		{`{"a.b":0}`, `{"b":1,"c":{"b":2}}`, `{"b":1,"c":{"b":2}}`},
		{`{"a.b":0}`, `{"a":[[{"b":1,"c":2},3],"x",null]}`, `{"a":[[{"c":2},3],"x",null]}`},
		{`{"a":0}`, `{"x":1,"a":[1],"y":2}`, `{"x":1,"y":2}`},
		{`{"a":0}`, `{"x":{"a":1}}`, `{"x":{"a":1}}`},
		{`{"a":0}`, `{"a":null}`, `{}`},
		{`{"a":0}`, `{}`, `{}`},
		{`{"a":0,"b":0}`, `{"b":1,"x":2,"a":3}`, `{"x":2}`},
		{`{"a":0}`, `[{"a":1,"b":2},5,[{"a":3},6]]`, `[{"b":2},5,[{},6]]`},
		{`{"a":0}`, `7`, `7`},
		{`{"a":0}`, `true`, `true`},
		{`{"a.b":0,"a.c":0,"d":0}`, `{"a":{"c":1,"x":0,"b":2},"d":{"y":1},"e":0}`, `{"a":{"x":0},"e":0}`},
		{`{"a.b.c":0,"a.d":0}`, `{"a":{"b":{"c":1,"x":0},"d":2,"e":3}}`, `{"a":{"b":{"x":0},"e":3}}`},
		{`{"a.b.c":0}`, `{"a":[{"b":[{"c":1},{"x":2},3]},{"b":4},5]}`, `{"a":[{"b":[{},{"x":2},3]},{"b":4},5]}`},
	} {
		if v := letting(t, c.fields).Apply(parsed(t, c.d)); printed(t, v) != c.want {
			t.Errorf("%s of %s: %s, want %s", c.fields, c.d, full(v), c.want)
		}
	}
}

// P6.5: of Values that are no values; what is told as it is, is all of it.
func TestApplyToOddValues(t *testing.T) {
	one, two := jsonval.Of(1), jsonval.Of(2)
	aside := odd(api.Text, []string{"x"}, one)
	short := odd(api.Object, []string{"a", "b", "c"}, one, two)
	for _, c := range []struct {
		fields  string
		v, want api.Value
	}{
		{`{}`, short, short},
		{`{}`, aside, aside},
		{`{"a":1}`, aside, aside},
		{`{"a":0}`, odd(9, []string{"a"}, one), odd(9, []string{"a"}, one)},
		{`{"a":1,"c":1}`, short, object("a", one)},
		{`{"a":0}`, short, object("b", two)},
		{`{"a":1}`, odd(api.Object, []string{"a"}, aside, one), object("a", aside)},
		{`{"b":0}`, odd(api.Object, []string{"a"}, aside, one), object("a", aside)},
		{`{"a.b":1}`, object("a", aside), jsonval.Named(nil)},
		{`{"a.b":0}`, object("a", aside), object("a", aside)},
		{`{"a":1}`, odd(api.Object, []string{"a", "b", "a"}, one, one, two), odd(api.Object, []string{"a", "a"}, one, two)},
		{`{"a":0}`, odd(api.Object, []string{"a", "b", "a"}, one, one, two), object("b", one)},
		{`{"a":1}`, odd(api.List, []string{"a"}, object("a", one), two), jsonval.Listed(object("a", one))},
		{`{"a":0}`, odd(api.List, []string{"a"}, object("a", one), two), jsonval.Listed(jsonval.Named(nil), two)},
	} {
		if v := letting(t, c.fields).Apply(c.v); full(v) != full(c.want) {
			t.Errorf("%s of %s: %s, want %s", c.fields, full(c.v), full(v), full(c.want))
		}
	}
}

// P6.5: as deep as what is given may be nested.
func TestApplyDeep(t *testing.T) {
	const deep = 1 << 16
	v := nested(deep-1, parsed(t, `{"a":1,"b":2}`))
	for fields, want := range map[string]string{`{"a":1}`: `{"a":1}`, `{"a":0}`: `{"b":2}`} {
		w := letting(t, fields).Apply(v)
		for range deep - 1 {
			if w.Kind != api.List || len(w.Items) != 1 {
				t.Fatal(fields, w.Kind, len(w.Items))
			}
			w = w.Items[0]
		}
		if printed(t, w) != want {
			t.Errorf("%s: %s, want %s", fields, full(w), want)
		}
	}
}

// P6.5: all of MaxFields paths, each of them as long as one may be.
func TestApplyManyFields(t *testing.T) {
	deep := strings.Repeat("s.", api.MaxSegments-1)
	name := func(i int) string { return "f" + strconv.Itoa(i) }
	inner := many(api.MaxFields+1, jsonval.Of(5), name)
	d := inner
	for range api.MaxSegments - 1 {
		d = object("s", d)
	}
	for item, want := range map[int64]api.Value{1: many(api.MaxFields, jsonval.Of(5), name), 0: object(name(api.MaxFields), jsonval.Of(5))} {
		f, e := shape.ParseFields(many(api.MaxFields, jsonval.Of(item), func(i int) string { return deep + name(i) }))
		if e != api.OK {
			t.Fatal(e)
		}
		v := f.Apply(d)
		for range api.MaxSegments - 1 {
			v, _ = jsonval.Has(v, "s")
		}
		if full(v) != full(want) {
			t.Errorf("%d: %s, want %s", item, full(v), full(want))
		}
	}
}

// P6.8.
func TestNilFields(t *testing.T) {
	var f *shape.Fields
	for _, v := range []api.Value{parsed(t, `{"a":[1,{"b":2}]}`), parsed(t, `[1]`), jsonval.Of(7), {}, odd(9, []string{"a"}), odd(api.Object, []string{"a", "b"}, jsonval.Of(1))} {
		if w := f.Apply(v); full(w) != full(v) {
			t.Errorf("Apply(%s): %s", full(v), full(w))
		}
	}
}
