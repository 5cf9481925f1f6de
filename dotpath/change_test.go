package dotpath_test

import (
	"slices"
	"testing"

	"docket/api"
	"docket/dotpath"
	"docket/jsonval"
)

// P2.6.
func TestSet(t *testing.T) {
	for _, c := range []struct {
		v, path, x, want string
		e                api.Errno
	}{
		{document, "", "5", "5", api.OK},
		{document, "a.b.3", "true", `{"a":{"b":[1,{"c":2},{"c":[3]},true]},"":4}`, api.OK},
		{document, "a.b.0", "[5]", `{"a":{"b":[[5],{"c":2},{"c":[3]}]},"":4}`, api.OK},
		{document, "a.b.1.c", "5", `{"a":{"b":[1,{"c":5},{"c":[3]}]},"":4}`, api.OK},
		{document, "a.b.1.d", "5", `{"a":{"b":[1,{"c":2,"d":5},{"c":[3]}]},"":4}`, api.OK},
		{document, "a.b.2.c.1", "5", `{"a":{"b":[1,{"c":2},{"c":[3,5]}]},"":4}`, api.OK},
		{document, "a.b.3.x.0", "5", `{"a":{"b":[1,{"c":2},{"c":[3]},{"x":{"0":5}}]},"":4}`, api.OK},
		{document, "a", "{}", `{"a":{},"":4}`, api.OK},
		{document, "x", "null", `{"a":{"b":[1,{"c":2},{"c":[3]}]},"":4,"x":null}`, api.OK},
		{document, "0", "5", `{"a":{"b":[1,{"c":2},{"c":[3]}]},"":4,"0":5}`, api.OK},
		{document, "a.b.4", "true", "", api.ErrIndex},
		{document, "a.b.999999999.x", "true", "", api.ErrIndex},
		{document, "a.b.x", "true", "", api.ErrCross},
		{document, "a.b.c", "true", "", api.ErrCross},
		{document, "a.b.00", "true", "", api.ErrCross},
		{document, "a.b.1234567890", "true", "", api.ErrCross},
		{document, "a.b.-1", "true", "", api.ErrCross},
		{document, "a.b.0.x", "true", "", api.ErrCross},
		{document, "a.b.0.0", "true", "", api.ErrCross},
		{document, "a.b.1.c.x", "true", "", api.ErrCross},
		{"{}", "x.0.y", "5", `{"x":{"0":{"y":5}}}`, api.OK},
		{"[]", "0", "5", "[5]", api.OK},
		{"[]", "0.a.b", "5", `[{"a":{"b":5}}]`, api.OK},
		{"[]", "1", "5", "", api.ErrIndex},
		{"[]", "a", "5", "", api.ErrCross},
		{"null", "a", "5", "", api.ErrCross},
		{"null", "0", "5", "", api.ErrCross},
		{`"ab"`, "2", "5", "", api.ErrCross},
		{"true", "", "5", "5", api.OK},
		{`{"a":null}`, "a.b", "5", "", api.ErrCross},
	} {
		w, e := dotpath.Set(parsed(t, c.v), segments(c.path), parsed(t, c.x))
		if e != c.e {
			t.Errorf("Set(%s, %q, %s): error %d, want %d", c.v, c.path, c.x, e, c.e)
		} else if e != api.OK && !isZero(w) {
			t.Errorf("Set(%s, %q, %s): %v beside error %d", c.v, c.path, c.x, w, e)
		} else if e == api.OK && printed(t, w) != c.want {
			t.Errorf("Set(%s, %q, %s): %s, want %s", c.v, c.path, c.x, printed(t, w), c.want)
		}
	}
}

// P2.6: segments are not asked whether they are some.
func TestSetByAnySegments(t *testing.T) {
	w, e := dotpath.Set(parsed(t, `{"":{"a":1}}`), []string{"", "$", "a.b"}, jsonval.Of(2))
	if e != api.OK || printed(t, w) != `{"":{"a":1,"$":{"a.b":2}}}` {
		t.Errorf("Set: %v, %d", w, e)
	}
}

// P2.6: what is made anew is what the kind names, and nothing else; what is not on the way stays as it is.
func TestSetOfOddValues(t *testing.T) {
	one, two, five := jsonval.Of(1), jsonval.Of(2), jsonval.Of(5)
	aside := odd(api.Text, []string{"x"}, one)
	for _, c := range []struct {
		v    api.Value
		path string
		want api.Value
		e    api.Errno
	}{
		{odd(api.Object, []string{"a", "b"}, one, aside), "a", jsonval.Named([]string{"a", "b"}, five, aside), api.OK},
		{odd(api.Object, []string{"a", "a"}, one, two), "a", jsonval.Named([]string{"a", "a"}, five, two), api.OK},
		{odd(api.Object, []string{"a", "b"}, one), "a", jsonval.Named([]string{"a"}, five), api.OK},
		{odd(api.Object, []string{"a", "b"}, one), "b", jsonval.Named([]string{"a", "b"}, one, five), api.OK},
		{odd(api.Object, []string{"a", "b", "c"}, one), "c", jsonval.Named([]string{"a", "c"}, one, five), api.OK},
		{odd(api.Object, []string{"a"}, one, two), "b", jsonval.Named([]string{"a", "b"}, one, five), api.OK},
		{odd(api.Object, nil, one, two), "b.c", jsonval.Named([]string{"b"}, jsonval.Named([]string{"c"}, five)), api.OK},
		{odd(api.List, []string{"a", "b", "c"}, one, aside), "0", jsonval.Listed(five, aside), api.OK},
		{odd(api.List, []string{"a", "b", "c"}, one, aside), "2", jsonval.Listed(one, aside, five), api.OK},
		{odd(api.List, []string{"a", "b", "c"}, one, two), "3", api.Value{}, api.ErrIndex},
		{odd(api.List, []string{"a", "b", "c"}, one, two), "a", api.Value{}, api.ErrCross},
		{odd(api.Text, []string{"a"}, one), "a", api.Value{}, api.ErrCross},
		{odd(api.Text, []string{"a"}, one), "1", api.Value{}, api.ErrCross},
		{odd(7, []string{"a"}, one), "a", api.Value{}, api.ErrCross},
		{odd(-1, []string{"a"}, one), "0", api.Value{}, api.ErrCross},
	} {
		w, e := dotpath.Set(c.v, segments(c.path), five)
		if e != c.e || full(w) != full(c.want) {
			t.Errorf("Set(%s, %q): %s, %d, want %s, %d", full(c.v), c.path, full(w), e, full(c.want), c.e)
		}
	}
	if w, e := dotpath.Set(one, nil, aside); e != api.OK || full(w) != full(aside) {
		t.Errorf("Set of the empty path: %s, %d", full(w), e)
	}
}

// P2.6: a depth beyond chapter 1 is not asked.
func TestSetDeep(t *testing.T) {
	path := slices.Repeat([]string{"a"}, 1<<16)
	w, e := dotpath.Set(parsed(t, "{}"), path, jsonval.Of(5))
	if e != api.OK {
		t.Fatal(e)
	}
	if x, there := dotpath.Get(w, path); !there || !jsonval.Equal(x, jsonval.Of(5)) {
		t.Error("Get", there)
	}
	if w, e = dotpath.Set(w, path, jsonval.Of(6)); e != api.OK {
		t.Fatal(e)
	}
	if l := dotpath.All(w, path); len(l) != 1 || !jsonval.Equal(l[0], jsonval.Of(6)) {
		t.Error("All", len(l))
	}
	if w, ok := dotpath.Unset(w, path); !ok || jsonval.Depth(w) != 1<<16-1 {
		t.Error("Unset", ok)
	}
	path = slices.Repeat([]string{"0"}, 1<<12)
	w = jsonval.Of(7)
	for range path {
		w = jsonval.Listed(w)
	}
	n := 0
	for p, x := range dotpath.Walk(w) {
		if n++; len(p) != n || (x.Kind == api.Int) != (n == len(path)) {
			t.Fatal("Walk", n, len(p))
		}
	}
	if n != len(path) {
		t.Error("Walk", n)
	}
}

// P2.7.
func TestUnset(t *testing.T) {
	for _, c := range []struct {
		v, path, want string
		ok            bool
	}{
		{document, "a.b.0", `{"a":{"b":[null,{"c":2},{"c":[3]}]},"":4}`, true},
		{document, "a.b.2", `{"a":{"b":[1,{"c":2},null]},"":4}`, true},
		{document, "a.b.1.c", `{"a":{"b":[1,{},{"c":[3]}]},"":4}`, true},
		{document, "a.b.2.c.0", `{"a":{"b":[1,{"c":2},{"c":[null]}]},"":4}`, true},
		{document, "a.b", `{"a":{},"":4}`, true},
		{document, "a", `{"":4}`, true},
		{`{"a":1,"b":2,"c":3}`, "b", `{"a":1,"c":3}`, true},
		{`{"a":1,"b":2,"c":3}`, "c", `{"a":1,"b":2}`, true},
		{`{"a":1}`, "a", "{}", true},
		{`{"a":null}`, "a", "{}", true},
		{"[null]", "0", "[null]", true},
		{"[[1,2],3]", "0.1", "[[1,null],3]", true},
		{document, "", document, false},
		{document, "a.x", document, false},
		{document, "x", document, false},
		{document, "a.b.3", document, false},
		{document, "a.b.c", document, false},
		{document, "a.b.00", document, false},
		{document, "a.b.0.x", document, false},
		{"5", "a", "5", false},
		{"[]", "0", "[]", false},
	} {
		w, ok := dotpath.Unset(parsed(t, c.v), segments(c.path))
		if ok != c.ok || printed(t, w) != c.want {
			t.Errorf("Unset(%s, %q): %s, %v, want %s, %v", c.v, c.path, printed(t, w), ok, c.want, c.ok)
		}
	}
	if w, ok := dotpath.Unset(parsed(t, document), []string{""}); !ok || printed(t, w) != `{"a":{"b":[1,{"c":2},{"c":[3]}]}}` {
		t.Errorf("Unset of an empty name: %v, %v", w, ok)
	}
}

// P2.7: what is made anew is what the kind names; with false v is answered as it is.
func TestUnsetOfOddValues(t *testing.T) {
	one, two := jsonval.Of(1), jsonval.Of(2)
	aside := odd(api.Text, []string{"x"}, one)
	for _, c := range []struct {
		v    api.Value
		path string
		want api.Value
		ok   bool
	}{
		{odd(api.Object, []string{"a", "b"}, one, aside), "a", jsonval.Named([]string{"b"}, aside), true},
		{odd(api.Object, []string{"a", "b", "c"}, one, two), "a", jsonval.Named([]string{"b"}, two), true},
		{odd(api.Object, []string{"a"}, one, two), "a", jsonval.Named(nil), true},
		{odd(api.Object, []string{"a", "a"}, one, two), "a", jsonval.Named([]string{"a"}, two), true},
		{odd(api.List, []string{"a"}, one, aside), "0", jsonval.Listed(api.Value{}, aside), true},
		{odd(api.List, []string{"a"}, aside), "0", jsonval.Listed(api.Value{}), true},
		{odd(api.List, []string{"a"}, odd(api.List, nil, one)), "0.0", jsonval.Listed(jsonval.Listed(api.Value{})), true},
	} {
		if w, ok := dotpath.Unset(c.v, segments(c.path)); ok != c.ok || full(w) != full(c.want) {
			t.Errorf("Unset(%s, %q): %s, %v, want %s", full(c.v), c.path, full(w), ok, full(c.want))
		}
	}
	for _, v := range []api.Value{
		odd(api.Object, []string{"b", "a"}, one), odd(api.List, []string{"a"}, one), odd(api.Text, []string{"a"}, one), odd(7, []string{"a"}, one),
	} {
		for _, path := range [][]string{{"a"}, nil, {"1"}, {"0", "a"}} {
			if w, ok := dotpath.Unset(v, path); ok || full(w) != full(v) {
				t.Errorf("Unset(%s, %q): %s, %v", full(v), path, full(w), ok)
			}
		}
	}
}

// P2.6, P2.7: what was handed in stays as it is, its spare room too, and so does what was answered earlier.
func TestChangesWriteNothingThatWasHandedIn(t *testing.T) {
	d := newDice(4)
	for range 5000 {
		v, x := roomy(d.value(4)), roomy(d.value(2))
		path := append(make([]string, 0, 9), d.inside(v)...)
		rest := append(path, "spare")[len(path):]
		before := spare(v) + spare(x)
		set, e := dotpath.Set(v, path, x)
		setFull := full(set)
		again, _ := dotpath.Set(v, append(slices.Clone(path), "y"), jsonval.Of(1))
		dotpath.Set(set, path, jsonval.Of(2))
		dotpath.Set(set, append(slices.Clone(path), "z"), jsonval.Of(3))
		dotpath.Unset(again, path)
		dotpath.Unset(set, path)
		dotpath.Unset(v, path)
		if spare(v)+spare(x) != before || rest[0] != "spare" {
			t.Fatalf("what was handed in was written: %q, %d", path, e)
		}
		if full(set) != setFull {
			t.Fatalf("what was answered was written: %q", path)
		}
	}
}

// setByTheWords is Set as the document says it.
func setByTheWords(v api.Value, path []string, x api.Value) (api.Value, api.Errno) {
	if len(path) == 0 {
		return x, api.OK
	}
	if v.Kind != api.Object && v.Kind != api.List {
		return api.Value{}, api.ErrCross
	}
	at, number := dotpath.Index(path[0])
	w := api.Value{Kind: v.Kind}
	if v.Kind == api.Object {
		w.Names = slices.Clone(v.Names[:min(len(v.Names), len(v.Items))])
		w.Items = slices.Clone(v.Items[:len(w.Names)])
		if at = slices.Index(w.Names, path[0]); at < 0 {
			at = len(w.Items)
			w.Names = append(w.Names, path[0])
		}
	} else if w.Items = slices.Clone(v.Items); !number {
		return api.Value{}, api.ErrCross
	}
	if at > len(w.Items) {
		return api.Value{}, api.ErrIndex
	}
	below := jsonval.Named(nil)
	if at == len(w.Items) {
		w.Items = append(w.Items, below)
		if len(path) == 1 {
			w.Items[at] = x
			return w, api.OK
		}
	}
	var e api.Errno
	if w.Items[at], e = setByTheWords(w.Items[at], path[1:], x); e != api.OK {
		return api.Value{}, e
	}
	return w, api.OK
}

// unsetByTheWords is Unset as the document says it, of a path at which something stands.
func unsetByTheWords(v api.Value, path []string) api.Value {
	above := path[:len(path)-1]
	holder, _ := getByTheWords(v, above)
	w := api.Value{Kind: holder.Kind}
	gone := false
	for i, item := range holder.Items {
		switch {
		case holder.Kind == api.List:
			if number, _ := dotpath.Index(path[len(above)]); i == number {
				item = api.Value{}
			}
			w.Items = append(w.Items, item)
		case i < len(holder.Names) && (gone || holder.Names[i] != path[len(above)]):
			w.Names, w.Items = append(w.Names, holder.Names[i]), append(w.Items, item)
		default:
			gone = true
		}
	}
	w, _ = setByTheWords(v, above, w)
	return w
}

// P2.6, P2.7.
func TestChangesByTheWords(t *testing.T) {
	d := newDice(10)
	for range 20000 {
		v, x := d.value(4), d.value(2)
		if d.Intn(3) == 0 {
			v, x = d.spoilt(3), d.spoilt(1)
		}
		path := d.inside(v)
		w, e := dotpath.Set(v, path, x)
		if want, wantE := setByTheWords(v, path, x); e != wantE || full(w) != full(want) {
			t.Fatalf("Set(%s, %q, %s): %s, %d, want %s, %d", full(v), path, full(x), full(w), e, full(want), wantE)
		}
		want := v
		_, there := getByTheWords(v, path)
		if there = there && len(path) > 0; there {
			want = unsetByTheWords(v, path)
		}
		if w, ok := dotpath.Unset(v, path); ok != there || full(w) != full(want) {
			t.Fatalf("Unset(%s, %q): %s, %v, want %s, %v", full(v), path, full(w), ok, full(want), there)
		}
	}
}
