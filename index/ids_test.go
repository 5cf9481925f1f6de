package index_test

import (
	"slices"
	"strconv"
	"testing"

	"docket/api"
	"docket/jsonval"
)

const (
	eq  = api.NeedEq
	gt  = api.NeedGt
	gte = api.NeedGte
	lt  = api.NeedLt
	lte = api.NeedLte
	in  = api.NeedIn
)

// P17.3.
func TestIds(t *testing.T) {
	x := of(t, plain, items(t,
		`e {"t":false}`, `n {"t":null}`, `b {"t":[5,7]}`, `a {"t":5}`, `c {}`, `d {"t":true}`, `f {"t":"x"}`,
		`g {"t":""}`, `h {"t":{"a":1}}`, `i {"t":{}}`, `j {"t":[]}`, `k {"t":[["x"],-9]}`, `l {"t":[5,5]}`)...)
	for _, c := range []struct {
		op   int
		v    string
		want []string
	}{
		{eq, `5`, []string{"a", "b", "l"}}, {eq, `7`, []string{"b"}}, {eq, `6`, nil}, {eq, `[5,7]`, []string{"b"}}, {eq, `[7,5]`, nil},
		{eq, `null`, []string{"n"}}, {eq, `[]`, []string{"j"}}, {eq, `{}`, []string{"i"}}, {eq, `{"a":1}`, []string{"h"}}, {eq, `["x"]`, []string{"k"}},
		{eq, `true`, []string{"d"}}, {eq, `false`, []string{"e"}}, {eq, `"x"`, []string{"f"}}, {eq, `"5"`, nil},
		{gt, `5`, []string{"b"}}, {gte, `5`, []string{"a", "b", "l"}}, {lt, `5`, []string{"k"}}, {lte, `5`, []string{"a", "b", "k", "l"}},
		{gt, `7`, nil}, {gte, `7`, []string{"b"}}, {lt, `-9`, nil}, {lte, `-9`, []string{"k"}}, {gt, `6`, []string{"b"}}, {lt, `6`, []string{"a", "b", "k", "l"}},
		{gt, `-9223372036854775808`, []string{"a", "b", "k", "l"}}, {lt, `9223372036854775807`, []string{"a", "b", "k", "l"}}, {gt, `9223372036854775807`, nil},
		{gt, `null`, nil}, {gte, `null`, []string{"n"}}, {lt, `null`, nil}, {lte, `null`, []string{"n"}},
		{gt, `false`, []string{"d"}}, {gte, `false`, []string{"d", "e"}}, {lt, `false`, nil}, {lte, `false`, []string{"e"}}, // one class
		{gt, `true`, nil}, {gte, `true`, []string{"d"}}, {lt, `true`, []string{"e"}}, {lte, `true`, []string{"d", "e"}},
		{gt, `""`, []string{"f"}}, {gte, `""`, []string{"f", "g"}}, {lt, `"x"`, []string{"g"}}, {lte, `"a"`, []string{"g"}}, {gte, `"y"`, nil},
		{gt, `{}`, []string{"h"}}, {lte, `{"a":1}`, []string{"h", "i"}}, {gte, `{"b":0}`, nil}, {lt, `{"b":0}`, []string{"h", "i"}},
		{gt, `[]`, []string{"b", "k", "l"}}, {gte, `[5,6]`, []string{"b", "k"}}, {lt, `[5,6]`, []string{"j", "l"}}, {lte, `[]`, []string{"j"}},
		{in, `[7,9]`, []string{"b"}}, {in, `[7,5]`, []string{"a", "b", "l"}}, {in, `[]`, nil}, {in, `[5,5,"x",5]`, []string{"a", "b", "f", "l"}},
		{in, `[null]`, []string{"n"}}, {in, `[true,null,6]`, []string{"d", "n"}}, {in, `[[5,7]]`, []string{"b"}}, {in, `[[]]`, []string{"j"}},
		{in, `5`, nil}, {in, `null`, nil}, {in, `{"a":5}`, nil}, {in, `"5"`, nil}, {in, `true`, nil},
		{0, `5`, nil}, {7, `5`, nil}, {-1, `5`, nil}, {7, `[5]`, nil}, {1 << 40, `5`, nil},
	} {
		if got := x.Ids(c.op, parsed(t, c.v)); !slices.Equal(got, c.want) {
			t.Errorf("Ids(%d, %s): %v, not %v", c.op, c.v, got, c.want)
		}
	}
}

// P17.3: the Keys rise, each once, whatever the values are.
func TestIdsRise(t *testing.T) {
	x := of(t, plain, items(t, `z {"t":[1,2,3,4]}`, `a {"t":[4,3,2,1]}`, `m {"t":[9,1]}`, `Z {"t":2}`)...)
	for _, c := range []struct {
		op   int
		v    string
		want []string
	}{
		{gte, `0`, []string{"Z", "a", "m", "z"}}, {lte, `3`, []string{"Z", "a", "m", "z"}}, {gt, `4`, []string{"m"}},
		{in, `[9,4,2,1]`, []string{"Z", "a", "m", "z"}}, {in, `[4,3]`, []string{"a", "z"}}, {eq, `1`, []string{"a", "m", "z"}},
	} {
		if got := x.Ids(c.op, parsed(t, c.v)); !slices.Equal(got, c.want) {
			t.Errorf("Ids(%d, %s): %q, not %q", c.op, c.v, got, c.want)
		}
	}
}

// P17.3: none, if v is no value, not even one with a part that is there.
func TestIdsOfNoValue(t *testing.T) {
	x := of(t, plain, items(t, `a {"t":5}`, `b {"t":null}`, `c {"t":true}`, `d {"t":[]}`, `e {"t":"x"}`, `f {"t":{}}`, `g {"t":false}`)...)
	for _, v := range noValues() {
		if jsonval.Check(v) == api.OK {
			t.Fatal(full(v))
		}
		for op := -1; op < 9; op++ {
			if got := x.Ids(op, v); len(got) != 0 {
				t.Errorf("Ids(%d, %s): %v", op, full(v), got)
			}
		}
	}
	// The deepest that is one.
	deep := nested(api.MaxDepth, jsonval.Of(5))
	y := changed(t, x, nil, []api.Item{{Key: "deep", Value: jsonval.Named([]string{"t"}, deep.Items[0])}})
	if got := y.Ids(in, deep); !slices.Equal(got, []string{"deep"}) {
		t.Error(got)
	}
}

// P17.3: every op at every value, among and beside those that are there, as the words say.
func TestIdsByWords(t *testing.T) {
	var l []api.Value
	for _, text := range []string{
		`null`, `-9223372036854775808`, `-1`, `0`, `1`, `2`, `9223372036854775807`, `""`, `"\u0000"`, `"a"`, `"aa"`, `"b"`, `{}`, `{"":0}`, `{"a":0}`, `{"a":1}`, `{"a":1,"b":2}`, `{"b":2,"a":1}`,
		`[]`, `[null]`, `[0]`, `[0,1]`, `[1,0]`, `[[0]]`, `[true]`, `[true,false]`, `[[],{}]`, `["a",0,null]`, `false`, `true`,
	} {
		l = append(l, parsed(t, text))
	}
	d := newDice(172)
	for range 300 {
		var now []api.Item
		for i := range d.Intn(12) {
			now = append(now, api.Item{Key: d.key() + strconv.Itoa(i), Value: jsonval.Named([]string{"t"}, pick(d, l...))})
		}
		x := of(t, plain, now...)
		had, _, _ := changeByWords(plain, nil, nil, now)
		for _, v := range l {
			for op := range 8 {
				if got, want := x.Ids(op, v), idsByWords(had, op, v); !slices.Equal(got, want) {
					t.Fatalf("%s: Ids(%d, %s): %q, not %q", told(x), op, full(v), got, want)
				}
			}
		}
	}
}

// P17.3: a list of very many items that are alike does not take long.
func TestIdsOfManyAlike(t *testing.T) {
	var now []api.Item
	for i := range 20000 {
		now = append(now, api.Item{Key: strconv.Itoa(i), Value: jsonval.Named([]string{"t"}, jsonval.Of(5))})
	}
	x := of(t, plain, now...)
	alike := make([]api.Value, 20000)
	for i := range alike {
		alike[i] = jsonval.Of(5)
	}
	if got := x.Ids(in, jsonval.Listed(alike...)); len(got) != len(now) || !slices.IsSorted(got) {
		t.Error(len(got))
	}
}
