package dotpath_test

import (
	"slices"
	"strconv"
	"strings"
	"testing"

	"docket/api"
	"docket/dotpath"
	"docket/jsonval"
)

// P2.4.
func TestGet(t *testing.T) {
	v := parsed(t, document)
	for _, c := range []struct{ path, want string }{
		{"", document}, {"a.b.1.c", "2"}, {"a.b", `[1,{"c":2},{"c":[3]}]`}, {"a.b.0", "1"}, {"a.b.2.c.0", "3"},
		{"a.b.3", "none"}, {"a.b.9", "none"}, {"a.b.c", "none"}, {"a.b.01", "none"}, {"a.b.00", "none"}, {"a.b.-1", "none"}, {"a.b.999999999", "none"},
		{"b", "none"}, {"a.0", "none"}, {"0", "none"}, {"a.b.0.c", "none"}, {"a.b.0.0", "none"}, {"a.b.1.c.d", "none"}, {"a.b.2.c.1", "none"},
		{"a.b.1.d.c", "none"},
	} {
		x, there := dotpath.Get(v, segments(c.path))
		switch {
		case c.want == "none":
			if there || !isZero(x) {
				t.Errorf("Get(%q): %v, %v", c.path, x, there)
			}
		case !there || printed(t, x) != c.want:
			t.Errorf("Get(%q): %v, %v, want %s", c.path, x, there, c.want)
		}
	}
	if x, there := dotpath.Get(v, []string{""}); !there || !jsonval.Equal(x, jsonval.Of(4)) {
		t.Errorf("Get of an empty name: %v, %v", x, there)
	}
}

// P2.4: an index is a name in an object.
func TestGetByNumbersAsNames(t *testing.T) {
	v := parsed(t, `{"0":{"00":[5]},"a.b":6,"$":7}`)
	for _, c := range []struct {
		path []string
		want int64
	}{{[]string{"0", "00", "0"}, 5}, {[]string{"a.b"}, 6}, {[]string{"$"}, 7}} {
		if x, there := dotpath.Get(v, c.path); !there || !jsonval.Equal(x, jsonval.Of(c.want)) {
			t.Errorf("Get(%q): %v, %v", c.path, x, there)
		}
	}
}

// P2.4: values that jsonval.Check refuses.
func TestGetOfOddValues(t *testing.T) {
	one, two := jsonval.Of(1), jsonval.Of(2)
	for _, c := range []struct {
		v     api.Value
		path  string
		there bool
		want  int64
	}{
		{odd(api.Object, []string{"a", "a"}, one, two), "a", true, 1},
		{odd(api.Object, []string{"b", "a", "a"}, one, two), "a", true, 2},
		{odd(api.Object, []string{"a", "b"}, one), "b", false, 0},
		{odd(api.Object, []string{"a"}, one, two), "a", true, 1},
		{odd(api.Object, nil, one, two), "0", false, 0},
		{odd(api.Object, []string{"a"}), "a", false, 0},
		{odd(api.List, []string{"a", "b"}, one, two), "1", true, 2},
		{odd(api.List, []string{"a", "b"}, one, two), "b", false, 0},
		{odd(api.Text, []string{"a", "b"}, one, two), "b", false, 0},
		{odd(api.Text, []string{"a", "b"}, one, two), "0", false, 0},
		{odd(7, []string{"a", "b"}, one, two), "b", false, 0},
		{odd(-1, []string{"a", "b"}, one, two), "1", false, 0},
	} {
		x, there := dotpath.Get(c.v, segments(c.path))
		if there != c.there || there && !jsonval.Equal(x, jsonval.Of(c.want)) || !there && !isZero(x) {
			t.Errorf("Get(%s, %q): %v, %v", full(c.v), c.path, x, there)
		}
	}
	v := odd(7, []string{"a"}, one)
	if x, there := dotpath.Get(v, nil); !there || full(x) != full(v) {
		t.Errorf("Get of the empty path: %s, %v", full(x), there)
	}
}

// P2.5.
func TestAll(t *testing.T) {
	for _, c := range []struct {
		v, path string
		want    []string
	}{
		{document, "", []string{document}},
		{document, "a.b", []string{`[1,{"c":2},{"c":[3]}]`}},
		{document, "a.b.c", []string{"2", "[3]"}},
		{document, "a.b.0", []string{"1"}},
		{document, "a.b.1.c", []string{"2"}},
		{document, "a.b.2.c.0", []string{"3"}},
		{document, "a.b.c.0", []string{"3"}},
		{document, "a.b.3", nil},
		{document, "a.b.0.c", nil},
		{document, "a.x", nil},
		{document, "a.b.c.x", nil},
		{`[[{"c":1}],{"c":2},3,{"d":4},{"c":5}]`, "c", []string{"2", "5"}},
		{`[{"0":1},{"0":2}]`, "0", []string{`{"0":1}`}},
		{`[{"00":1},{"00":2}]`, "00", []string{"1", "2"}},
		{`[{"1234567890":1}]`, "1234567890", []string{"1"}},
		{`[{"0":1}]`, "1", nil},
		{`[{"0":1}]`, "0.0", []string{"1"}},
		{`{"a":[{"b":[{"c":1},{"c":2}]},{"b":{"c":3}},{"b":[[{"c":4}],{"c":[5,6]}]}]}`, "a.b.c", []string{"1", "2", "3", "[5,6]"}},
		{`{"a":[{"b":[7,8]},{"b":[9]},{"b":{"1":10}}]}`, "a.b.1", []string{"8", "10"}},
		{"5", "a", nil},
		{`"text"`, "0", nil},
		{"[]", "a", nil},
		{"[1,2]", "a", nil},
		{`[{"a":[]}]`, "a", []string{"[]"}},
		{"null", "a", nil},
	} {
		var got []string
		for _, x := range dotpath.All(parsed(t, c.v), segments(c.path)) {
			got = append(got, printed(t, x))
		}
		if !slices.Equal(got, c.want) {
			t.Errorf("All(%s, %q): %q, want %q", c.v, c.path, got, c.want)
		}
	}
}

// P2.5: values that jsonval.Check refuses.
func TestAllOfOddValues(t *testing.T) {
	one, two := jsonval.Of(1), jsonval.Of(2)
	twice := odd(api.Object, []string{"a", "a"}, one, two)
	short := odd(api.Object, []string{"b", "a"}, one)
	other := odd(9, []string{"a"}, one)
	got := dotpath.All(odd(api.List, []string{"a"}, twice, short, other, twice), []string{"a"})
	if len(got) != 2 || !jsonval.Equal(got[0], one) || !jsonval.Equal(got[1], one) {
		t.Errorf("All: %v", got)
	}
	for _, v := range []api.Value{short, other, odd(api.Null, []string{"a"}, one)} {
		if got := dotpath.All(v, []string{"a"}); len(got) != 0 {
			t.Errorf("All(%s): %v", full(v), got)
		}
	}
}

// P2.5: what is answered is new each time, and shares no list with v.
func TestAllAnswersAListOfItsOwn(t *testing.T) {
	v := parsed(t, `{"a":[{"b":1},{"b":2}]}`)
	before := full(v)
	for _, path := range [][]string{nil, {"a"}, {"a", "b"}} {
		first, second := dotpath.All(v, path), dotpath.All(v, path)
		told := full(jsonval.Listed(second...))
		first = first[:cap(first)]
		for i := range first {
			first[i] = jsonval.Word("written")
		}
		if full(jsonval.Listed(second...)) != told || full(v) != before {
			t.Errorf("All(%q) shares its list", path)
		}
	}
}

// allByTheWords is All as the document says it.
func allByTheWords(v api.Value, path []string) []api.Value {
	if len(path) == 0 {
		return []api.Value{v}
	}
	_, number := dotpath.Index(path[0])
	if v.Kind == api.List && !number {
		var all []api.Value
		for _, item := range v.Items {
			if item.Kind == api.Object {
				all = append(all, allByTheWords(item, path)...)
			}
		}
		return all
	}
	if x, there := getByTheWords(v, path[:1]); there {
		return allByTheWords(x, path[1:])
	}
	return nil
}

// getByTheWords is Get as the document says it.
func getByTheWords(v api.Value, path []string) (api.Value, bool) {
	if len(path) == 0 {
		return v, true
	}
	for i, item := range v.Items {
		named := v.Kind == api.Object && i < len(v.Names) && v.Names[i] == path[0]
		if named || v.Kind == api.List && strconv.Itoa(i) == path[0] {
			return getByTheWords(item, path[1:])
		}
	}
	return api.Value{}, false
}

// P2.4, P2.5.
func TestLooksByTheWords(t *testing.T) {
	d := newDice(2)
	for range 20000 {
		v := d.value(4)
		if d.Intn(3) == 0 {
			v = d.spoilt(3)
		}
		path := d.inside(v)
		x, there := dotpath.Get(v, path)
		want, wantThere := getByTheWords(v, path)
		if there != wantThere || full(x) != full(want) {
			t.Fatalf("Get(%s, %q): %s, %v", full(v), path, full(x), there)
		}
		all, wantAll := dotpath.All(v, path), allByTheWords(v, path)
		if full(jsonval.Listed(all...)) != full(jsonval.Listed(wantAll...)) {
			t.Fatalf("All(%s, %q): %v, want %v", full(v), path, all, wantAll)
		}
	}
}

// walked tells what Walk tells, a line each.
func walked(v api.Value) []string {
	var told []string
	for path, item := range dotpath.Walk(v) {
		told = append(told, strconv.Itoa(len(path))+":"+strings.Join(path, "/")+"="+full(item))
	}
	return told
}

// P2.9.
func TestWalk(t *testing.T) {
	for _, c := range []struct {
		v    string
		want []string
	}{
		{`{"x":[7]}`, []string{"x=[7]", "x/0=7"}},
		{`{"x":[7,{"":8}],"y":null}`, []string{`x=[7,{"":8}]`, "x/0=7", `x/1={"":8}`, "x/1/=8", "y=null"}},
		{`[[1,[2]],[],{},{"a.b":{"$":3}},"s"]`, []string{
			"0=[1,[2]]", "0/0=1", "0/1=[2]", "0/1/0=2", "1=[]", "2={}",
			`3={"a.b":{"$":3}}`, `3/a.b={"$":3}`, "3/a.b/$=3", `4="s"`}},
		{"5", nil}, {"[]", nil}, {"{}", nil}, {`"x"`, nil},
		{"[0,1,2,3,4,5,6,7,8,9,10]", []string{"0=0", "1=1", "2=2", "3=3", "4=4", "5=5", "6=6", "7=7", "8=8", "9=9", "10=10"}},
	} {
		var got []string
		for path, item := range dotpath.Walk(parsed(t, c.v)) {
			got = append(got, strings.Join(path, "/")+"="+printed(t, item))
		}
		if !slices.Equal(got, c.want) {
			t.Errorf("Walk(%s): %q, want %q", c.v, got, c.want)
		}
	}
}

// P2.9: values that jsonval.Check refuses are gone over as they are.
func TestWalkOfOddValues(t *testing.T) {
	one, two := jsonval.Of(1), jsonval.Of(2)
	text := odd(api.Text, []string{"x"}, one)
	for _, c := range []struct {
		v    api.Value
		want []string
	}{
		{odd(api.Object, []string{"a", "a"}, one, two), []string{"1:a=" + full(one), "1:a=" + full(two)}},
		{odd(api.Object, []string{"a", "b"}, one), []string{"1:a=" + full(one)}},
		{odd(api.Object, []string{"a"}, one, two), []string{"1:a=" + full(one)}},
		{odd(api.Object, nil, one, two), nil},
		{odd(api.List, []string{"a"}, one, text), []string{"1:0=" + full(one), "1:1=" + full(text)}},
		{text, nil},
		{odd(7, []string{"a"}, one), nil},
		{odd(-3, nil, one), nil},
	} {
		if got := walked(c.v); !slices.Equal(got, c.want) {
			t.Errorf("Walk(%s): %q, want %q", full(c.v), got, c.want)
		}
	}
}

// P2.9: it may be left at any time, and gone over again.
func TestWalkIsLeft(t *testing.T) {
	v := parsed(t, `{"a":[1,{"b":2,"c":[3,4]}],"d":{"e":5}}`)
	walk := dotpath.Walk(v)
	all := walked(v)
	for most := range len(all) + 1 {
		var told []string
		for path, item := range walk {
			if len(told) == most {
				break
			}
			told = append(told, strconv.Itoa(len(path))+":"+strings.Join(path, "/")+"="+full(item))
		}
		if !slices.Equal(told, all[:most]) {
			t.Errorf("the first %d: %q", most, told)
		}
	}
}

// P2.9: it may be nested.
func TestWalkIsNested(t *testing.T) {
	v := parsed(t, `{"a":[1,{"b":2}],"d":3}`)
	walk := dotpath.Walk(v)
	all := walked(v)
	outer := 0
	for path := range walk {
		var inner []string
		for other, item := range walk {
			inner = append(inner, strconv.Itoa(len(other))+":"+strings.Join(other, "/")+"="+full(item))
		}
		if !slices.Equal(inner, all) {
			t.Errorf("nested in %q: %q", path, inner)
		}
		if told := strings.Join(path, "/"); !strings.HasPrefix(all[outer], strconv.Itoa(len(path))+":"+told+"=") {
			t.Errorf("place %d is %q, want %q", outer, told, all[outer])
		}
		outer++
	}
	if outer != len(all) {
		t.Errorf("%d places, want %d", outer, len(all))
	}
}

// P2.9: each path is new, whatever is written into the others.
func TestWalkTellsPathsOfTheirOwn(t *testing.T) {
	v := parsed(t, `{"a":[1,{"b":2},[3,[4]]],"d":{"e":5,"f":6}}`)
	before := full(v)
	var kept [][]string
	var told []string
	for path := range dotpath.Walk(v) {
		told = append(told, strings.Join(path, "/"))
		kept = append(kept, path)
	}
	for i, path := range kept {
		if strings.Join(path, "/") != told[i] {
			t.Errorf("path %d became %q, was %q", i, path, told[i])
		}
	}
	i := 0
	for path := range dotpath.Walk(v) {
		if strings.Join(path, "/") != told[i] {
			t.Errorf("path %d is %q, want %q", i, path, told[i])
		}
		path = path[:cap(path)]
		for k := range path {
			path[k] = "written"
		}
		i++
	}
	if full(v) != before {
		t.Error("the value was written")
	}
}

// P2.9: the path that is told is the one by which Get finds the item.
func TestWalkAndGet(t *testing.T) {
	d := newDice(3)
	for range 2000 {
		v := d.value(4)
		count := 0
		for path, item := range dotpath.Walk(v) {
			count++
			if x, there := dotpath.Get(v, path); !there || !jsonval.Equal(x, item) {
				t.Fatalf("Get(%s, %q): %v, %v", full(v), path, x, there)
			}
		}
		if want := parts(v); count != want {
			t.Fatalf("Walk(%s) tells %d places of %d", full(v), count, want)
		}
	}
}

// parts is how many items are in v, in all.
func parts(v api.Value) int {
	n := len(v.Items)
	for _, item := range v.Items {
		n += parts(item)
	}
	return n
}
