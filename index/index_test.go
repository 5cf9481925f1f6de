package index_test

import (
	"iter"
	"slices"
	"strings"
	"testing"

	"docket/api"
	"docket/index"
	"docket/jsonval"
)

// The numbers that the document names.
func TestNumbers(t *testing.T) {
	if api.MaxIndexes != 8 || api.ErrIndexed != 170 || api.ErrUnique != 171 || api.ErrPath != 20 {
		t.Error(api.MaxIndexes, api.ErrIndexed, api.ErrUnique, api.ErrPath)
	}
	ops := []int{api.NeedEq, api.NeedGt, api.NeedGte, api.NeedLt, api.NeedLte, api.NeedIn}
	if !slices.Equal(ops, []int{1, 2, 3, 4, 5, 6}) {
		t.Error(ops)
	}
}

// P17.1.
func TestNew(t *testing.T) {
	long, deep := strings.Repeat("a", 64), strings.Repeat("a.", 15)+"a"
	for _, c := range []struct {
		name, path string
		want       api.Errno
	}{
		{"n", "t", 0}, {"by-1_x.y", "a.b.0", 0}, {strings.Repeat("n", 32), long, 0}, {"n", deep, 0}, {"n", " \xff", 0}, {"n", "a$", 0},
		{"", "t", 170}, {"N", "t", 170}, {"1", "t", 170}, {"a b", "t", 170}, {"é", "t", 170}, {strings.Repeat("n", 33), "t", 170}, {"n/m", "t", 170},
		{"n", "", 20}, {"n", ".", 20}, {"n", "a..b", 20}, {"n", "a.", 20}, {"n", "$a", 20}, {"n", "a.$b", 20}, {"n", long + "a", 20}, {"n", deep + ".a", 20},
		{"", "", 170}, {"N", "a..b", 170}, {"1", "$", 170},
	} {
		for _, one := range []bool{false, true} {
			s := api.Spec{Name: c.name, Path: c.path, Unique: one}
			x, e := index.New(s)
			if e != c.want || e != newByWords(s) || (x == nil) != (e != api.OK) {
				t.Errorf("New(%v): %v, %d, not %d", s, x, e, c.want)
			}
			if e == api.OK && (x.Size() != 0 || told(x) != "" || x.Spec() != s) {
				t.Errorf("New(%v): %d, %s, %v", s, x.Size(), told(x), x.Spec())
			}
		}
	}
}

// P17.1: each New answers an index of its own.
func TestNewEachTime(t *testing.T) {
	x, y := fresh(t, plain), fresh(t, plain)
	if x == y {
		t.Error("one index twice")
	}
	z := changed(t, x, nil, items(t, `a {"t":1}`))
	if x.Size() != 0 || y.Size() != 0 || z.Size() != 1 {
		t.Error(x.Size(), y.Size(), z.Size())
	}
}

// P17.4: Spec is as it was made, in all that comes of it too.
func TestSpec(t *testing.T) {
	for _, s := range []api.Spec{plain, unique, {Name: "x.y", Path: "a.b.0", Unique: true}, {Name: "x", Path: "0"}} {
		x := fresh(t, s)
		y := changed(t, x, nil, items(t, `a {"a":{"b":[1]},"t":5}`))
		z := changed(t, y, items(t, `a {}`), nil)
		for _, made := range []*index.Index{x, y, z} {
			if made.Spec() != s {
				t.Errorf("%v, not %v", made.Spec(), s)
			}
		}
	}
}

// What the entries of an item are, told by Each and counted by Size: 17.1, P17.4.
func TestEntriesOfAnItem(t *testing.T) {
	for _, c := range []struct{ path, value, want string }{
		{"t", `{"t":5}`, "5 k"},
		{"t", `{}`, ""},
		{"t", `{"u":5}`, ""},
		{"t", `5`, ""},
		{"t", `null`, ""},
		{"t", `{"t":null}`, "null k"},
		{"t", `{"t":[]}`, "[] k"},
		{"t", `{"t":[null]}`, "null k, [null] k"},
		{"t", `{"t":[7,5]}`, "5 k, 7 k, [7,5] k"},
		{"t", `{"t":[5,5,7,5]}`, "5 k, 7 k, [5,5,7,5] k"},
		{"t", `{"t":[[5],[5],[[5]]]}`, "[5] k, [[5]] k, [[5],[5],[[5]]] k"},
		{"t", `{"t":[[5],5]}`, "5 k, [5] k, [[5],5] k"},
		{"t", `{"t":{"a":[1,2]}}`, `{"a":[1,2]} k`},
		{"t", `{"t":[{"a":1,"b":2},{"b":2,"a":1}]}`, `{"a":1,"b":2} k, {"b":2,"a":1} k, [{"a":1,"b":2},{"b":2,"a":1}] k`},
		{"t", `{"t":[true,false,[],{},"",0,null]}`, `null k, 0 k, "" k, {} k, [] k, [true,false,[],{},"",0,null] k, false k, true k`},
		{"t", `[{"t":1},{"t":[2,1]},3,[{"t":9}]]`, "1 k, 2 k, [2,1] k"},
		{"t.u", `{"t":[{"u":5},{"u":[5,6]},{"v":1},7]}`, "5 k, 6 k, [5,6] k"},
		{"t.u", `{"t":{"u":5}}`, "5 k"},
		{"t.u", `{"t":5}`, ""},
		{"t.u", `{"t":[[{"u":5}]]}`, ""},
		{"t.1", `{"t":[5,[8,6]]}`, "6 k, 8 k, [8,6] k"},
		{"t.1", `{"t":[5]}`, ""},
		{"t.1", `{"t":{"1":5}}`, "5 k"},
		{"t.1", `{"t":[{"1":5},{"1":6}]}`, `{"1":6} k`},
		{"t.0.u", `{"t":[[{"u":1},{"u":2}]]}`, "1 k, 2 k"},
	} {
		item := api.Item{Key: "k", Version: 3, Value: parsed(t, c.value)}
		x := of(t, api.Spec{Name: "n", Path: c.path}, item)
		if got := told(x); got != c.want || got != toldByWords(entriesByWords(c.path, item)) {
			t.Errorf("%s of %s: %s, not %s", c.path, c.value, got, c.want)
		}
		count := 0
		for range x.Each() {
			count++
		}
		if x.Size() != count {
			t.Errorf("%s of %s: Size %d, not %d", c.path, c.value, x.Size(), count)
		}
		one := of(t, api.Spec{Name: "n", Path: c.path, Unique: true}, item)
		if told(one) != c.want {
			t.Errorf("unique %s of %s: %s, not %s", c.path, c.value, told(one), c.want)
		}
	}
}

// P17.4: by rising values, of one value by rising Keys.
func TestEachRises(t *testing.T) {
	x := of(t, plain, items(t, `b {"t":true}`, `a {"t":true}`, `B {"t":[5,"x"]}`, `a10 {"t":5}`, `a1 {"t":5}`, `a2 {"t":5}`, `a1/ {"t":5}`, `c {"t":null}`, `z {"t":-5}`)...)
	want := `null c, -5 z, 5 B, 5 a1, 5 a1/, 5 a10, 5 a2, "x" B, [5,"x"] B, true a, true b`
	if told(x) != want || x.Size() != 11 {
		t.Errorf("%s, %d", told(x), x.Size())
	}
	odd := of(t, plain, api.Item{Key: "\xff", Value: parsed(t, `{"t":1}`)}, api.Item{Key: "", Value: parsed(t, `{"t":1}`)}, api.Item{Key: "é", Value: parsed(t, `{"t":1}`)}, api.Item{Key: "\x00", Value: parsed(t, `{"t":1}`)})
	if told(odd) != "1 , 1 \x00, 1 é, 1 \xff" {
		t.Errorf("%q", told(odd))
	}
}

// P17.4: it may be left at any time, and gone over again.
func TestEachIsLeft(t *testing.T) {
	x := of(t, plain, items(t, `a {"t":[1,2,3]}`, `b {"t":[2,4]}`)...)
	var all []string
	for v, key := range x.Each() {
		all = append(all, full(v)+key)
	}
	each := x.Each()
	for n := range len(all) + 1 {
		var some []string
		for v, key := range each {
			if len(some) == n {
				break
			}
			some = append(some, full(v)+key)
		}
		if !slices.Equal(some, all[:n]) {
			t.Errorf("left behind %d: %v", n, some)
		}
	}
	calls := 0
	each(func(api.Value, string) bool { calls++; return calls < 3 })
	if calls != 3 {
		t.Errorf("left at 3, and yet called %d times", calls)
	}
	next, stop := iter.Pull2(each)
	if v, key, there := next(); full(v)+key != all[0] || !there {
		t.Error(v, key, there)
	}
	stop()
}

// P17.4: it may be nested.
func TestEachIsNested(t *testing.T) {
	x := of(t, plain, items(t, `a {"t":[1,2]}`, `b {"t":2}`)...)
	each, got := x.Each(), ""
	for v, key := range each {
		got += full(v) + key + ":"
		for w, other := range each {
			got += " " + full(w) + other
		}
		got += ". "
	}
	inner := ": 1a 2a 2b [1,2]a. "
	if got != "1a"+inner+"2a"+inner+"2b"+inner+"[1,2]a"+inner {
		t.Error(got)
	}
}

// P17.7.
func TestNil(t *testing.T) {
	var x *index.Index
	if x.Spec() != (api.Spec{}) || x.Size() != 0 {
		t.Error(x.Spec(), x.Size())
	}
	for v, key := range x.Each() {
		t.Error("Each:", v, key)
	}
	a := items(t, `a {"t":5}`)
	for _, l := range [][]api.Item{nil, {}, a, append(a, a...)} {
		if y, key, e := x.Change(l, l); y != nil || key != "" || e != api.OK {
			t.Error("Change:", y, key, e)
		}
	}
	for op := -1; op < 9; op++ {
		for _, v := range []api.Value{{}, jsonval.Of(5), jsonval.Listed(jsonval.Of(5)), {Kind: 9}} {
			if l := x.Ids(op, v); len(l) != 0 {
				t.Error("Ids:", op, v, l)
			}
			if x.Serves(api.Need{Op: op, Value: v}) || x.Serves(api.Need{Path: "t", Op: op, Value: v}) {
				t.Error("Serves:", op, v)
			}
		}
	}
}
