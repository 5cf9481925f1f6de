package shape_test

import (
	"slices"
	"strconv"
	"strings"
	"testing"

	"docket/api"
	"docket/jsonval"
	"docket/shape"
)

func checkSort(t *testing.T, v api.Value, want api.Errno) {
	t.Helper()
	if s, e := shape.ParseSort(v); e != want || (s == nil) != (want != api.OK) {
		t.Errorf("ParseSort(%.300s): %v, %d; want %d", full(v), s, e, want)
	}
}

// P6.1.
func TestParseSort(t *testing.T) {
	for text, want := range map[string]api.Errno{
		`{}`:                            api.OK,
		`{"a":1}`:                       api.OK,
		`{"a":-1}`:                      api.OK,
		`{"a":1,"b":-1}`:                api.OK,
		`{"a.b.0":1,"a.b":-1,"a":1}`:    api.OK, // paths of an order may clash
		`{"0":1,"1":-1}`:                api.OK,
		`{"a":1,"A":1,"é":1," ":1}`:     api.OK,
		`[1]`:                           api.ErrSort,
		`[]`:                            api.ErrSort,
		`null`:                          api.ErrSort,
		`1`:                             api.ErrSort,
		`"a"`:                           api.ErrSort,
		`true`:                          api.ErrSort,
		`{"a":2}`:                       api.ErrSort,
		`{"a":0}`:                       api.ErrSort,
		`{"a":-2}`:                      api.ErrSort,
		`{"a":"1"}`:                     api.ErrSort,
		`{"a":true}`:                    api.ErrSort,
		`{"a":null}`:                    api.ErrSort,
		`{"a":[1]}`:                     api.ErrSort,
		`{"a":{}}`:                      api.ErrSort,
		`{"a":9223372036854775807}`:     api.ErrSort,
		`{"a":1,"b":1,"c":0}`:           api.ErrSort,
		`{"a..b":1}`:                    api.ErrPath,
		`{"":1}`:                        api.ErrPath,
		`{"$a":1}`:                      api.ErrPath,
		`{"a.$b":1}`:                    api.ErrPath,
		`{"a.":1}`:                      api.ErrPath,
		`{"a":1,".":-1}`:                api.ErrPath,
		`{"a.b.c.d.e.f.g.h.i.j.k":1}`:   api.OK,
		`{"a..b":2}`:                    api.ErrPath, // told ahead of its item
		`{"a":2,"b..c":1}`:              api.ErrSort, // member by member
		`{"b..c":1,"a":2}`:              api.ErrPath,
		`{"a":1,"a..b":2,"b":2,"c":-2}`: api.ErrPath,
	} {
		checkSort(t, parsed(t, text), want)
	}
}

// P6.1: at MaxKeys, and beyond it, which is told ahead of what the members are.
func TestParseSortOfMany(t *testing.T) {
	name := func(i int) string { return "a" + strconv.Itoa(i) }
	wrong := func(i int) string { return "." }
	checkSort(t, many(api.MaxKeys, jsonval.Of(1), name), api.OK)
	checkSort(t, many(api.MaxKeys, jsonval.Of(-1), name), api.OK)
	checkSort(t, many(api.MaxKeys+1, jsonval.Of(1), name), api.ErrMany)
	checkSort(t, many(api.MaxKeys+1, jsonval.Of(7), name), api.ErrMany)
	checkSort(t, many(api.MaxKeys+1, jsonval.Of(1), wrong), api.ErrMany)
	checkSort(t, many(1000, jsonval.Of(1), name), api.ErrMany)
	l := many(api.MaxKeys+1, jsonval.Of(1), name)
	l.Kind = api.List
	checkSort(t, l, api.ErrSort)
	deep := strings.Repeat("a.", api.MaxSegments-1)
	checkSort(t, object(deep+"a", jsonval.Of(1)), api.OK)
	checkSort(t, object(deep+"a.a", jsonval.Of(1)), api.ErrPath)
	checkSort(t, object(strings.Repeat("s", api.MaxSegment), jsonval.Of(1)), api.OK)
	checkSort(t, object(strings.Repeat("s", api.MaxSegment+1), jsonval.Of(1)), api.ErrPath)
}

// P6.1: of Values that are no values: a path that stands twice, a Name without an Item, kinds that are none.
func TestParseSortOfOddValues(t *testing.T) {
	one, two := jsonval.Of(1), jsonval.Of(2)
	checkSort(t, odd(api.Object, []string{"a", "a"}, one, one), api.ErrSort)
	checkSort(t, odd(api.Object, []string{"a", "b", "a"}, one, one, jsonval.Of(-1)), api.ErrSort)
	checkSort(t, odd(api.Object, []string{"a", "a", ".."}, one, one, one), api.ErrSort)
	checkSort(t, odd(api.Object, []string{"a", "..", "a"}, one, one, one), api.ErrPath)
	checkSort(t, odd(api.Object, []string{"a", "b"}, one), api.OK)
	checkSort(t, odd(api.Object, []string{"a"}, one, two), api.OK)
	checkSort(t, odd(api.Object, nil, two, two), api.OK)
	checkSort(t, odd(api.Object, []string{"a"}), api.OK)
	checkSort(t, odd(7, []string{"a"}, one), api.ErrSort)
	checkSort(t, odd(-1, []string{"a"}, one), api.ErrSort)
	checkSort(t, odd(api.Object, []string{"a"}, odd(9, nil)), api.ErrSort)
	checkSort(t, odd(api.Object, []string{"a"}, api.Value{Kind: api.Text, Int: 1}), api.ErrSort)
}

// P6.2.
func TestKey(t *testing.T) {
	for _, c := range []struct{ path, d, rising, falling string }{
		{"a", `{"a":7}`, `7`, `7`},
		{"a", `{"a":null}`, `null`, `null`},
		{"a", `{}`, `null`, `null`},
		{"a", `{"b":1}`, `null`, `null`},
		{"a", `{"a":[5,2]}`, `2`, `5`},
		{"a", `{"a":[2,5,3]}`, `2`, `5`},
		{"a", `{"a":[]}`, `[]`, `[]`},
		{"a", `{"a":[7]}`, `7`, `7`},
		{"a", `{"a":[[9,1],[8]]}`, `[8]`, `[9,1]`}, // the items of a list alone, not of those in it
		{"a", `{"a":[[]]}`, `[]`, `[]`},
		{"a", `{"a":[[],{}]}`, `{}`, `[]`},
		{"a", `{"a":["x",5,null,true,false,{},[3]]}`, `null`, `true`},
		{"a", `{"a":[5,"x"]}`, `5`, `"x"`},
		{"a", `{"a":[null,1]}`, `null`, `1`},
		{"a", `{"a":{"b":1}}`, `{"b":1}`, `{"b":1}`},
		{"a.b", `{"a":{"b":1}}`, `1`, `1`},
		{"a.b", `{"a":{"b":[4,3]}}`, `3`, `4`},
		{"a.b", `{"a":[{"b":3},{"b":1},{"b":2}]}`, `1`, `3`},
		{"a.b", `{"a":[{"b":[3,7]},{"b":5},{"b":[]},{"c":0},9]}`, `3`, `[]`},
		{"a.b", `{"a":[{"b":[3,7]},{"b":[1,9]}]}`, `1`, `9`},
		{"a.b", `{"a":[[{"b":1}]]}`, `null`, `null`}, // a list in a list is not gone into
		{"a.b", `{"a":7}`, `null`, `null`},
		{"a.b", `{"a":[]}`, `null`, `null`},
		{"a.0", `{"a":[5,2]}`, `5`, `5`},
		{"a.1", `{"a":[5,[2,3]]}`, `2`, `3`},
		{"a.2", `{"a":[5,2]}`, `null`, `null`},
		{"a.0.b", `{"a":[{"b":[1,2]},{"b":0}]}`, `1`, `2`},
		{"0", `{"0":[1,2]}`, `1`, `2`},
	} {
		d := parsed(t, c.d)
		if k := sorting(t, `{"`+c.path+`":1}`).Key(d, 0); printed(t, k) != c.rising {
			t.Errorf("%s of %s, rising: %s, want %s", c.path, c.d, full(k), c.rising)
		}
		if k := sorting(t, `{"`+c.path+`":-1}`).Key(d, 0); printed(t, k) != c.falling {
			t.Errorf("%s of %s, falling: %s, want %s", c.path, c.d, full(k), c.falling)
		}
	}
}

// P6.2: each path has its own number, and other numbers have none.
func TestKeyByNumber(t *testing.T) {
	s, d := sorting(t, `{"b":-1,"a":1,"c":1}`), parsed(t, `{"a":[1,2],"b":[3,4],"c":5}`)
	for i, want := range map[int]string{0: "4", 1: "1", 2: "5", 3: "null", 4: "null", -1: "null", 1 << 62: "null", -1 << 62: "null"} {
		if k := s.Key(d, i); printed(t, k) != want {
			t.Errorf("number %d: %s, want %s", i, full(k), want)
		}
	}
	if k := sorting(t, `{}`).Key(d, 0); printed(t, k) != "null" {
		t.Errorf("of no paths: %s", full(k))
	}
}

// P6.2: of what is no document.
func TestKeyOfOddValues(t *testing.T) {
	one, two := jsonval.Of(1), jsonval.Of(2)
	for _, c := range []struct {
		d, rising, falling api.Value
	}{
		{parsed(t, `7`), api.Value{}, api.Value{}},
		{parsed(t, `[{"a":1},{"a":2}]`), one, two},
		{odd(api.Object, []string{"b", "a"}, one), api.Value{}, api.Value{}},
		{odd(api.Object, []string{"a", "a"}, one, two), one, one},
		{odd(7, []string{"a"}, one), api.Value{}, api.Value{}},
		{odd(api.Object, []string{"a"}, odd(api.List, nil, odd(9, nil), one)), odd(9, nil), one},
		{object("a", nested(1<<12, one)), nested(1<<12-1, one), nested(1<<12-1, one)},
	} {
		if k := sorting(t, `{"a":1}`).Key(c.d, 0); full(k) != full(c.rising) {
			t.Errorf("%.300s, rising: %.300s", full(c.d), full(k))
		}
		if k := sorting(t, `{"a":-1}`).Key(c.d, 0); full(k) != full(c.falling) {
			t.Errorf("%.300s, falling: %.300s", full(c.d), full(k))
		}
	}
}

// P6.3.
func TestCompare(t *testing.T) {
	for _, c := range []struct {
		order, a, idA, b, idB string
		want                  int
	}{
		{`{"a":1}`, `{"a":1}`, "x", `{"a":2}`, "x", -1},
		{`{"a":-1}`, `{"a":1}`, "x", `{"a":2}`, "x", 1},
		{`{"a":1}`, `{"a":1}`, "z", `{"a":2}`, "y", -1}, // the keys count ahead of the Ids
		{`{"a":-1}`, `{"a":1}`, "y", `{"a":2}`, "z", 1},
		{`{"a":1}`, `{"a":1}`, "y", `{"a":1}`, "z", -1},
		{`{"a":-1}`, `{"a":1}`, "y", `{"a":1}`, "z", -1}, // Ids are never turned round
		{`{"a":1}`, `{"a":1,"b":1}`, "y", `{"a":1,"b":0}`, "y", 0},
		{`{"a":1}`, `{}`, "y", `{"a":null}`, "z", -1},
		{`{"a":1}`, `{"a":null}`, "y", `{}`, "y", 0},
		{`{"a":1}`, `{"a":3}`, "z", `{"a":"x"}`, "y", -1},
		{`{"a":1}`, `{"a":null}`, "z", `{"a":3}`, "y", -1},
		{`{"a":1}`, `{"a":[5,2]}`, "x", `{"a":3}`, "x", -1},
		{`{"a":-1}`, `{"a":[5,2]}`, "x", `{"a":3}`, "x", -1},
		{`{"a":1}`, `{"a":[3,9]}`, "x", `{"a":3}`, "x", 0},
		{`{"a":-1}`, `{"a":[3,9]}`, "x", `{"a":3}`, "x", -1},
		{`{"a":1}`, `{"a":[]}`, "x", `{"a":{}}`, "x", 1},
		{`{"a":1,"b":1}`, `{"a":1,"b":2}`, "x", `{"a":1,"b":1}`, "y", 1},
		{`{"a":1,"b":-1}`, `{"a":1,"b":2}`, "y", `{"a":1,"b":1}`, "x", -1},
		{`{"a":-1,"b":1}`, `{"a":1,"b":9}`, "x", `{"a":2,"b":1}`, "x", 1}, // the first path counts
		{`{"b":1,"a":-1}`, `{"a":1,"b":9}`, "x", `{"a":2,"b":1}`, "x", 1},
		{`{"b":-1,"a":1}`, `{"a":1,"b":9}`, "x", `{"a":2,"b":1}`, "x", -1},
		{`{}`, `{"a":2}`, "x", `{"a":1}`, "y", -1},
		{`{}`, `{"a":2}`, "x", `{"a":1}`, "x", 0},
		{`{}`, `{}`, "", `{}`, "\x00", -1},
		{`{}`, `{}`, "ab", `{}`, "a", 1},
		{`{}`, `{}`, "a\xff", `{}`, "aé", 1}, // byte by byte
		{`{}`, `{}`, "Z", `{}`, "a", -1},
		{`{}`, `{}`, "10", `{}`, "9", -1},
	} {
		s := sorting(t, c.order)
		a := api.Doc{Id: c.idA, Version: 1, Value: parsed(t, c.a)}
		b := api.Doc{Id: c.idB, Version: 2, Value: parsed(t, c.b)}
		if got, back := s.Compare(a, b), s.Compare(b, a); got != c.want || back != -c.want {
			t.Errorf("%s: Compare(%q %s, %q %s): %d, want %d, and the other way %d", c.order, c.idA, c.a, c.idB, c.b, got, c.want, back)
		}
	}
}

// P6.3: all of MaxKeys paths, each one where those ahead of it leave the documents alike.
func TestCompareByEachPath(t *testing.T) {
	for i := range api.MaxKeys {
		for _, way := range []int64{1, -1} {
			v := many(api.MaxKeys, jsonval.Of(way), func(i int) string { return "a" + strconv.Itoa(i) })
			s, e := shape.ParseSort(v)
			if e != api.OK {
				t.Fatal(e)
			}
			a, b := jsonval.Copy(v), jsonval.Copy(v)
			for k := range api.MaxKeys {
				a.Items[k], b.Items[k] = jsonval.Of(5), jsonval.Of(5)
				if k == i {
					b.Items[k] = jsonval.Of(6)
				} else if k > i {
					b.Items[k] = jsonval.Of(4)
				}
			}
			if c := s.Compare(api.Doc{Id: "z", Value: a}, api.Doc{Id: "y", Value: b}); c != -int(way) {
				t.Errorf("path %d, %d: %d", i, way, c)
			}
		}
	}
}

// P6.3.
func TestOrder(t *testing.T) {
	for _, c := range []struct {
		order string
		texts []string
		want  string
	}{
		{`{"a":1}`, []string{`{"a":"x"}`, `{"a":3}`, `{}`, `{"a":null}`}, "c d b a"},
		{`{"a":-1}`, []string{`{"a":"x"}`, `{"a":3}`, `{}`, `{"a":null}`}, "a b c d"},
		{`{"a":1}`, []string{`{"a":true}`, `{"a":false}`, `{"a":[]}`, `{"a":{}}`, `{"a":""}`, `{"a":0}`, `{}`}, "g f e d c b a"},
		{`{"a":1}`, []string{`{"a":[9,1]}`, `{"a":2}`, `{"a":[0,5]}`}, "c a b"},
		{`{"a":-1}`, []string{`{"a":[1,4]}`, `{"a":5}`, `{"a":[0,9]}`}, "c b a"},
		{`{"a":1,"b":-1}`, []string{`{"a":2,"b":1}`, `{"a":1,"b":1}`, `{"a":2,"b":3}`, `{"a":1,"b":7}`, `{"b":0}`}, "e d b c a"},
		{`{}`, []string{`{"a":2}`, `{"a":1}`, `{}`}, "a b c"},
		{`{"a.b":1}`, []string{`{"a":[{"b":4},{"b":2}]}`, `{"a":{"b":3}}`, `{"a":7}`}, "c a b"},
		{`{"a":1}`, nil, ""},
		{`{"a":1}`, []string{`{}`}, "a"},
	} {
		l := documents(t, c.texts...)
		for range 3 {
			if got := ids(sorting(t, c.order).Order(l)); got != c.want {
				t.Errorf("%s of %q: %s, want %s", c.order, c.texts, got, c.want)
			}
			slices.Reverse(l)
		}
	}
}

// P6.3: those that Compare tells as 0 stay as they stood.
func TestOrderOfAlikeDocuments(t *testing.T) {
	var l []api.Doc
	for i := range 300 {
		l = append(l, api.Doc{Id: strconv.Itoa(i % 2), Version: int64(i), Value: object("a", jsonval.Of(int64(i%3)))})
	}
	for _, order := range []string{`{"a":1}`, `{"a":-1}`, `{}`} {
		s := sorting(t, order)
		ordered := s.Order(l)
		for i := range len(ordered) - 1 {
			c := s.Compare(ordered[i], ordered[i+1])
			if c > 0 || c == 0 && ordered[i].Version >= ordered[i+1].Version {
				t.Fatalf("%s: %q is ahead of %q", order, told(ordered)[i], told(ordered)[i+1])
			}
		}
		if len(ordered) != len(l) {
			t.Errorf("%s: %d documents", order, len(ordered))
		}
	}
}

// P6.3: the list is new, and the one that was handed in as it was, spare room too.
func TestOrderTellsANewList(t *testing.T) {
	l := append(documents(t, `{"a":3}`, `{"a":1}`, `{"a":2}`), documents(t, `{"a":0}`)...)
	before := strings.Join(told(l), " ")
	for _, s := range []*shape.Sort{nil, sorting(t, `{}`), sorting(t, `{"a":1}`)} {
		first := s.Order(l[:3:4])
		second := s.Order(l[:3:4])
		want := strings.Join(told(second), " ")
		clear(first[:cap(first)])
		if strings.Join(told(l), " ") != before || strings.Join(told(second), " ") != want {
			t.Errorf("lists are shared: %q, %q", told(l), told(second))
		}
	}
}

// P6.8.
func TestNilSort(t *testing.T) {
	var s *shape.Sort
	l := documents(t, `{"a":3}`, `{"a":1}`, `{"a":2}`)
	for i := range 3 {
		if k := s.Key(l[0].Value, i-1); full(k) != "null" {
			t.Errorf("Key of %d: %s", i-1, full(k))
		}
	}
	if s.Compare(l[0], l[1]) != -1 || s.Compare(l[1], l[0]) != 1 || s.Compare(l[0], api.Doc{Id: "a"}) != 0 || s.Compare(api.Doc{Id: "\xff"}, api.Doc{Id: "é"}) != 1 {
		t.Error("Compare is not by the Ids")
	}
	slices.Reverse(l)
	if got := ids(s.Order(l)); got != "a b c" {
		t.Errorf("Order: %s", got)
	}
	if got := s.Order(nil); len(got) != 0 {
		t.Errorf("Order of none: %q", told(got))
	}
}
