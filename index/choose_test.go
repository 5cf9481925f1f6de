package index_test

import (
	"slices"
	"testing"

	"docket/api"
	"docket/index"
	"docket/jsonval"
)

// P17.5.
func TestServes(t *testing.T) {
	all := []int{eq, gt, gte, lt, lte, in}
	for _, c := range []struct {
		v    string
		want []int
	}{
		{`5`, []int{eq, gt, gte, lt, lte}},
		{`"x"`, []int{eq, gt, gte, lt, lte}},
		{`true`, []int{eq, gt, gte, lt, lte}},
		{`false`, []int{eq, gt, gte, lt, lte}},
		{`{}`, []int{eq, gt, gte, lt, lte}},
		{`{"a":null}`, []int{eq, gt, gte, lt, lte}},
		{`null`, []int{gt, gte, lt, lte}},
		{`[]`, all},
		{`[5,"x",false]`, all},
		{`[null]`, []int{eq, gt, gte, lt, lte}},
		{`[5,null,5]`, []int{eq, gt, gte, lt, lte}},
		{`[5,6,null]`, []int{eq, gt, gte, lt, lte}},
		{`[[null],{"a":null}]`, all},
	} {
		for _, s := range []api.Spec{plain, unique} {
			x := fresh(t, s)
			full := of(t, s, items(t, `a {"t":5}`)...)
			for op := -2; op < 10; op++ {
				n := api.Need{Path: "t", Op: op, Value: parsed(t, c.v)}
				want := slices.Contains(c.want, op)
				if x.Serves(n) != want || full.Serves(n) != want || servesByWords(s, n) != want {
					t.Errorf("%v: Serves(%d, %s): %v", s, op, c.v, !want)
				}
			}
		}
	}
}

// P17.5: the path is the index's, no other, whatever begins or ends like it.
func TestServesAPath(t *testing.T) {
	paths := []string{"t", "t.u", "t.u.0", "u", "t.0", "T", "t0"}
	for _, p := range paths {
		x := fresh(t, api.Spec{Name: "n", Path: p})
		for _, q := range append(paths, "", "t.", ".t", "t..u", " t", "$t", "n") {
			for op := range 8 {
				n := api.Need{Path: q, Op: op, Value: jsonval.Listed()}
				if want := p == q && op >= 1 && op <= 6; x.Serves(n) != want {
					t.Errorf("%s: Serves(%s, %d): %v", p, q, op, !want)
				}
			}
		}
	}
}

// P17.5: no index serves what is no value.
func TestServesNoValue(t *testing.T) {
	x := fresh(t, plain)
	for _, v := range noValues() {
		for op := -1; op < 9; op++ {
			if x.Serves(api.Need{Path: "t", Op: op, Value: v}) {
				t.Errorf("Serves(%d, %s)", op, full(v))
			}
		}
	}
	if !x.Serves(api.Need{Path: "t", Op: in, Value: nested(api.MaxDepth, jsonval.Of(5))}) {
		t.Error("the deepest value")
	}
}

// P17.6.
func TestChoose(t *testing.T) {
	a, b, a2 := fresh(t, api.Spec{Name: "a", Path: "a"}), fresh(t, api.Spec{Name: "b", Path: "b"}), fresh(t, api.Spec{Name: "c", Path: "a", Unique: true})
	need := func(path string, op int, v string) api.Need {
		return api.Need{Path: path, Op: op, Value: parsed(t, v)}
	}
	aEq, bEq, aIn, bIn, aGt, bLt := need("a", eq, "5"), need("b", eq, "5"), need("a", in, "[5]"), need("b", in, "[5]"), need("a", gt, "5"), need("b", lt, "5")
	aNull, bNullIn, cEq, aOdd := need("a", eq, "null"), need("b", in, "[null]"), need("c", eq, "5"), need("a", 7, "5")
	for i, c := range []struct {
		l     []*index.Index
		needs []api.Need
		index int
		need  int
		there bool
	}{
		{nil, nil, 0, 0, false},
		{[]*index.Index{a, b}, nil, 0, 0, false},
		{nil, []api.Need{aEq}, 0, 0, false},
		{[]*index.Index{nil, nil}, []api.Need{aEq, bEq}, 0, 0, false},
		{[]*index.Index{b}, []api.Need{aEq, cEq}, 0, 0, false},
		{[]*index.Index{a, b}, []api.Need{aNull, bNullIn, cEq, aOdd}, 0, 0, false},
		{[]*index.Index{a}, []api.Need{aEq}, 0, 0, true},
		{[]*index.Index{nil, a}, []api.Need{cEq, aEq}, 1, 1, true},
		{[]*index.Index{nil, b, nil, a, a2}, []api.Need{aGt}, 3, 0, true}, // the first index
		{[]*index.Index{a2, a}, []api.Need{aGt}, 0, 0, true},
		{[]*index.Index{a, b}, []api.Need{bEq, aEq}, 1, 0, true}, // the first need, ahead of the first index
		{[]*index.Index{a, b}, []api.Need{aEq, bEq}, 0, 0, true},
		{[]*index.Index{a, b}, []api.Need{bIn, aIn}, 1, 0, true},
		{[]*index.Index{a, b}, []api.Need{bLt, aGt}, 1, 0, true},
		{[]*index.Index{a, b}, []api.Need{aGt, aIn, aEq}, 0, 2, true}, // NeedEq, then NeedIn, then the others
		{[]*index.Index{a, b}, []api.Need{aIn, bEq}, 1, 1, true},
		{[]*index.Index{a, b}, []api.Need{aGt, bIn}, 1, 1, true},
		{[]*index.Index{a, b}, []api.Need{aGt, bLt, bIn, aIn}, 1, 2, true},
		{[]*index.Index{b}, []api.Need{aEq, bLt}, 0, 1, true},
		{[]*index.Index{b}, []api.Need{aEq, bLt, bIn, aIn}, 0, 2, true},
		{[]*index.Index{a, b}, []api.Need{aNull, bLt, aOdd}, 1, 1, true},
	} {
		x, n, there := index.Choose(c.l, c.needs)
		if x != c.index || n != c.need || there != c.there {
			t.Errorf("%d: %d, %d, %v, not %d, %d, %v", i, x, n, there, c.index, c.need, c.there)
		}
	}
}

// P17.6: of all of one kind the order of the needs tells.
func TestChooseOfOthers(t *testing.T) {
	x := []*index.Index{fresh(t, plain)}
	for _, first := range []int{gt, gte, lt, lte} {
		for _, second := range []int{gt, gte, lt, lte} {
			needs := []api.Need{{Path: "u", Op: first}, {Path: "t", Op: first}, {Path: "t", Op: second}}
			if i, k, there := index.Choose(x, needs); i != 0 || k != 1 || !there {
				t.Errorf("%d, %d: %d, %d, %v", first, second, i, k, there)
			}
		}
	}
}

// P17.5, P17.6: needs and indexes at random, as the words say.
func TestChooseByWords(t *testing.T) {
	d := newDice(173)
	chosen := [8]int{}
	for range 40000 {
		var l []*index.Index
		var specs []*api.Spec
		for range d.Intn(5) {
			s := api.Spec{Name: "n", Path: pick(d, "a", "b", "c", "a.b"), Unique: d.Intn(2) == 0}
			if d.Intn(5) == 0 {
				l, specs = append(l, nil), append(specs, nil)
				continue
			}
			l, specs = append(l, fresh(t, s)), append(specs, &s)
		}
		var needs []api.Need
		for range d.Intn(5) {
			v := pick(d, d.small(), d.small(), d.list(1), d.list(1), api.Value{}, pick(d, noValues()...))
			needs = append(needs, api.Need{Path: pick(d, "a", "b", "c", "a.b"), Op: d.Intn(8), Value: v})
		}
		i, k, there := index.Choose(l, needs)
		wantI, wantK, want := chooseByWords(specs, needs)
		if i != wantI || k != wantK || there != want {
			t.Fatalf("%v, %v: %d, %d, %v, not %d, %d, %v", specs, needs, i, k, there, wantI, wantK, want)
		}
		if there {
			chosen[needs[k].Op]++
		}
	}
	if slices.Min(chosen[1:7]) < 500 {
		t.Errorf("%v: that says little", chosen)
	}
}
