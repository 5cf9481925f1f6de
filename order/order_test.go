package order_test

import (
	"math"
	"testing"

	"docket/api"
	"docket/jsonval"
	"docket/order"
)

// rising are the texts of values that stand in the order, each ahead of the next.
func rising() []string {
	return []string{
		"null",
		"-9223372036854775808", "-9223372036854775807", "-256", "-2", "-1", "0", "1", "2", "5", "10", "256", "9223372036854775806", "9223372036854775807",
		`""`, `"\u0000"`, `"\u0000\u0000"`, `"\u0000\u0001"`, `"\u0000a"`, `"\u0001"`, `"B"`, `"a"`, `"a\u0000"`, `"a\u0000b"`, `"a\u0001"`, `"aa"`, `"ab"`, `"b"`, `"~"`, `"é"`, "\"\ufffd\"", "\"\U00010000\"",
		"{}", `{"":true}`, `{"\u0000":null}`, `{"a":null}`, `{"a":1}`, `{"a":2}`, `{"a":2,"":0}`, `{"a":2,"b":0}`, `{"a":2,"b":0,"c":0}`, `{"a":2,"b":1}`, `{"a":"x"}`, `{"a":{}}`, `{"a":[]}`, `{"a\u0000":null}`, `{"ab":null}`, `{"b":0}`, `{"b":0,"a":0}`, `{"c":null}`,
		"[]", "[null]", "[null,null]", "[1]", "[1,null]", "[1,1]", "[1,true]", "[2]", `["a"]`, `["a",1]`, `["ab"]`, "[{}]", "[[]]", "[[],null]", "[[null]]", "[false]", "[true]",
		"false", "true",
	}
}

// P3.1.
func TestRank(t *testing.T) {
	for _, c := range []struct{ kind, want int }{
		{api.Null, 0}, {api.Int, 1}, {api.Text, 2}, {api.Object, 3}, {api.List, 4}, {api.False, 5}, {api.True, 6},
		{-1, -1}, {7, -1}, {8, -1}, {math.MaxInt, -1}, {math.MinInt, -1},
	} {
		bare := api.Value{Kind: c.kind}
		stuffed := api.Value{Kind: c.kind, Int: 3, Text: "t", Names: []string{"a"}, Items: []api.Value{{}, {}}}
		if r, s := order.Rank(bare), order.Rank(stuffed); r != c.want || s != c.want {
			t.Errorf("Rank of the Kind %d: %d, %d, want %d", c.kind, r, s, c.want)
		}
	}
}

// P3.2.
func TestCompare(t *testing.T) {
	texts := rising()
	for i, first := range texts {
		for k, second := range texts {
			want := 0
			switch {
			case i < k:
				want = -1
			case i > k:
				want = 1
			}
			if c := order.Compare(parsed(t, first), parsed(t, second)); c != want {
				t.Errorf("Compare(%s, %s): %d, want %d", first, second, c, want)
			}
		}
	}
}

// P3.2: Values that jsonval.Check refuses.
func TestCompareOfOddValues(t *testing.T) {
	one, two := jsonval.Of(1), jsonval.Of(2)
	object := func(names []string, items ...api.Value) api.Value { return jsonval.Named(names, items...) }
	none := api.Value{Kind: 7, Int: 5, Text: "z", Names: []string{"a"}, Items: []api.Value{one}}
	for _, c := range []struct {
		a, b api.Value
		want int
	}{
		{none, api.Value{Kind: -1}, 0}, {none, api.Value{Kind: 100, Int: 6}, 0}, {none, api.Value{}, -1}, {none, one, -1}, {none, jsonval.Flag(true), -1},
		{jsonval.Listed(none), jsonval.Listed(api.Value{Kind: 9}), 0}, {jsonval.Listed(none), jsonval.Listed(api.Value{}), -1}, {jsonval.Listed(), jsonval.Listed(none), -1},
		// what the Kind does not name has no part in it
		{api.Value{Kind: api.Null, Int: 1}, api.Value{Kind: api.Null, Text: "b", Items: []api.Value{one}}, 0},
		{api.Value{Kind: api.True, Int: 1}, api.Value{Kind: api.True}, 0}, {api.Value{Kind: api.False, Int: 1}, api.Value{Kind: api.False, Text: "x"}, 0},
		{api.Value{Kind: api.Int, Int: 1, Text: "b"}, api.Value{Kind: api.Int, Int: 1, Text: "a", Names: []string{"n"}}, 0},
		{api.Value{Kind: api.Int, Int: 1, Text: "b"}, api.Value{Kind: api.Int, Int: 2, Text: "a"}, -1},
		{api.Value{Kind: api.Text, Int: 2, Text: "a"}, api.Value{Kind: api.Text, Int: 1, Text: "a", Items: []api.Value{one}}, 0},
		{api.Value{Kind: api.Text, Int: 2, Text: "a"}, api.Value{Kind: api.Text, Int: 1, Text: "b"}, -1},
		{api.Value{Kind: api.List, Int: 2, Names: []string{"b"}, Items: []api.Value{one}}, api.Value{Kind: api.List, Int: 1, Names: []string{"a"}, Items: []api.Value{one}}, 0},
		{api.Value{Kind: api.List, Names: []string{"b"}, Items: []api.Value{one}}, api.Value{Kind: api.List, Names: []string{"a"}, Items: []api.Value{two}}, -1},
		{api.Value{Kind: api.Object, Int: 2, Text: "b"}, api.Value{Kind: api.Object, Int: 1, Text: "a"}, 0},
		// members are as many as the fewer of Names and Items
		{object([]string{"a", "b"}, one), object([]string{"a"}, one), 0}, {object([]string{"a"}, one, two), object([]string{"a"}, one), 0},
		{object([]string{"a", "b"}, one), object([]string{"a"}, one, two), 0}, {object([]string{"a"}), object(nil, one), 0},
		{object([]string{"a", "b"}, one), object([]string{"a", "b"}, one, one), -1}, {object([]string{"a"}, one, two), object([]string{"a", ""}, one, one), -1},
		{object([]string{"b"}), object([]string{"a"}, one), -1},
		// a name that stands twice, texts that are not clean
		{object([]string{"a", "a"}, one, two), object([]string{"a", "a"}, one, one), 1}, {object([]string{"a", "a"}, one, one), object([]string{"a", "b"}, one, one), -1},
		{jsonval.Word("\xff"), jsonval.Word("\xfe\xff"), 1}, {jsonval.Word("\U0010ffff"), jsonval.Word("\xff"), -1}, {jsonval.Word("\xff"), jsonval.Word("\xff"), 0},
		{object([]string{"\xff"}, one), object([]string{"\x80"}, two), 1},
	} {
		if got, back := order.Compare(c.a, c.b), order.Compare(c.b, c.a); got != c.want || back != -c.want {
			t.Errorf("Compare(%s, %s): %d, and the other way round %d, want %d", full(c.a), full(c.b), got, back, c.want)
		}
	}
}

// plainly compares as 3.1 says it, one part of its words behind the other.
func plainly(a, b api.Value) int {
	ranks := map[int]int{api.Null: 1, api.Int: 2, api.Text: 3, api.Object: 4, api.List: 5, api.False: 6, api.True: 7} // 0 of no Kind
	if ranks[a.Kind] != ranks[b.Kind] {
		return sign(ranks[a.Kind] - ranks[b.Kind])
	}
	switch a.Kind {
	case api.Int:
		if a.Int < b.Int {
			return -1
		}
		if a.Int > b.Int {
			return 1
		}
	case api.Text:
		return plainText(a.Text, b.Text)
	case api.List:
		return plainParts(len(a.Items), len(b.Items), func(i int) int { return plainly(a.Items[i], b.Items[i]) })
	case api.Object:
		return plainParts(min(len(a.Names), len(a.Items)), min(len(b.Names), len(b.Items)), func(i int) int {
			if c := plainText(a.Names[i], b.Names[i]); c != 0 {
				return c
			}
			return plainly(a.Items[i], b.Items[i])
		})
	}
	return 0
}

func plainText(a, b string) int {
	return plainParts(len(a), len(b), func(i int) int { return sign(int(a[i]) - int(b[i])) })
}

func plainParts(inA, inB int, part func(i int) int) int {
	for i := 0; i < inA && i < inB; i++ {
		if c := part(i); c != 0 {
			return c
		}
	}
	return sign(inA - inB)
}

func sign(x int) int {
	switch {
	case x < 0:
		return -1
	case x > 0:
		return 1
	}
	return 0
}

// P3.2, at values and at others.
func TestCompareAgainstItsWords(t *testing.T) {
	d := newDice(1)
	told := map[int]int{}
	for i := range 40000 {
		a, b := d.pair()
		if i%2 == 0 {
			a, b = d.spoilt(3), d.spoilt(3)
		}
		c := order.Compare(a, b)
		if want := plainly(a, b); c != want {
			t.Fatalf("Compare(%s, %s): %d, want %d", full(a), full(b), c, want)
		}
		told[c]++
	}
	if told[0] < 1000 || told[1] < 1000 || told[-1] < 1000 {
		t.Errorf("%v: that says little", told)
	}
}

// P3.2: of values 0 just if they are Equal.
func TestCompareAndEqual(t *testing.T) {
	d := newDice(2)
	alike := 0
	for range 20000 {
		a, b := d.pair()
		if (order.Compare(a, b) == 0) != jsonval.Equal(a, b) {
			t.Fatalf("Compare(%s, %s): %d", full(a), full(b), order.Compare(a, b))
		}
		if jsonval.Equal(a, b) {
			alike++
		}
	}
	if alike < 1000 {
		t.Errorf("%d were Equal: that says little", alike)
	}
}

// Values may be nested far deeper than Check allows.
func TestCompareOfDeepValues(t *testing.T) {
	const deep = 1 << 16
	a, b := nested(deep, jsonval.Of(1)), nested(deep, jsonval.Of(2))
	if order.Compare(a, b) != -1 || order.Compare(b, a) != 1 || order.Compare(a, nested(deep, jsonval.Of(1))) != 0 {
		t.Error("Compare of values that are nested 65536 deep")
	}
}
