package catalog_test

import (
	"fmt"
	"slices"
	"strings"
	"testing"

	"docket/api"
	"docket/catalog"
)

// wantChosen asks for one need at t.
func wantChosen(t *testing.T, c *catalog.Catalog, name string, op int, v, want string) {
	t.Helper()
	if got := chosen(c.Choose(name, []api.Need{{Path: "t", Op: op, Value: val(v)}})); got != want {
		t.Errorf("Choose(%s, %d %s): %s, not %s", name, op, v, got, want)
	}
}

// P22.5: an index of the items that are handed in, behind the others.
func TestIndex(t *testing.T) {
	c := created(t, only(t, 0, "null"), "d", 0, "null")
	l := items("b {'t':[1,2]}", "a {'t':1}", "e {'u':1}")
	one := indexed(t, c, "c", spec("m"), l)
	wantColls(t, one, "c 0/100000 null {0 0} [{m t false}]", "d 0/100000 null {0 0} []")
	wantChosen(t, one, "c", eq, "1", `["a" "b"] m true`)
	wantChosen(t, one, "c", gt, "1", `["b"] m true`)
	wantChosen(t, one, "c", gte, "null", `[] m true`)
	wantChosen(t, one, "d", eq, "1", `[]  false`)
	two := indexed(t, indexed(t, one, "c", api.Spec{Name: "z", Path: "u"}, l), "c", spec("a!"), nil)
	wantColls(t, two, "c 0/100000 null {0 0} [{m t false} {z u false} {a t true}]", "d 0/100000 null {0 0} []")
	wantChosen(t, two, "c", eq, "1", `["a" "b"] m true`)
	if got := chosen(two.Choose("c", []api.Need{{Path: "u", Op: eq, Value: val("1")}})); got != `["e"] z true` {
		t.Error(got)
	}
	both := indexed(t, two, "d", spec("m"), l[1:]) // a name may stand in each collection
	wantColls(t, both, "c 0/100000 null {0 0} [{m t false} {z u false} {a t true}]", "d 0/100000 null {0 0} [{m t false}]")
	wantChosen(t, both, "d", eq, "1", `["a"] m true`)
}

// P22.5: index.New's errors of the spec.
func TestIndexSpecs(t *testing.T) {
	c := only(t, 0, "null")
	for _, name := range []string{"n", "by-n", strings.Repeat("n", 32)} {
		for _, path := range []string{"t", "a.b.0", strings.Repeat("s", 64), strings.Repeat("a.", 15) + "a"} {
			for _, unique := range []bool{false, true} {
				s := api.Spec{Name: name, Path: path, Unique: unique}
				if k, _ := indexed(t, c, "c", s, nil).Coll("c"); !slices.Equal(k.Specs, []api.Spec{s}) {
					t.Error(k.Specs, s)
				}
			}
		}
	}
	for _, s := range []api.Spec{{}, {Name: "N", Path: "t"}, {Name: "1", Path: "t"}, {Name: "", Path: "t"}, {Name: "a/b", Path: "."}, {Name: strings.Repeat("n", 33), Path: "t"}} {
		d, e := c.Index("c", s, nil)
		wantRefused(t, fmt.Sprint(s), d, e, isIndexed)
	}
	for _, s := range []api.Spec{{Name: "n"}, {Name: "n", Path: "."}, {Name: "n", Path: "a..b"}, {Name: "n", Path: strings.Repeat("s", 65)}, {Name: "n", Path: strings.Repeat("a.", 16) + "a"}} {
		d, e := c.Index("c", s, nil)
		wantRefused(t, fmt.Sprint(s), d, e, isPath)
	}
}

// P22.5: of several errors the first, in the document's order.
func TestIndexErrorsInOrder(t *testing.T) {
	some := indexed(t, only(t, 0, "null"), "c", spec("n"), nil)
	most := some
	for i := range maxIndexes - 1 {
		most = indexed(t, most, "c", spec(fmt.Sprint("n", i)), nil)
	}
	for _, c := range []*catalog.Catalog{some, most} {
		for _, coll := range []string{"c", "d"} {
			for _, s := range []api.Spec{spec("o!"), spec("n!"), {Name: "n"}, {Name: "o"}, {Name: "O", Path: "t"}, {}} {
				for _, l := range [][]api.Item{items("a {'t':1}", "b {'t':2}"), items("a {'t':1}", "b {'t':1}")} {
					want := api.Errno(isOK)
					switch {
					case coll == "d":
						want = isColl
					case s.Name == "O" || s.Name == "":
						want = isIndexed
					case s.Path == "":
						want = isPath
					case s.Name == "n":
						want = isThere
					case c == most:
						want = isFull
					case full(l[1].Value) == `{"t":1}`:
						want = isUnique
					}
					d, e := c.Index(coll, s, l)
					if e != want || (d == nil) != (want != isOK) {
						t.Errorf("Index(%s, %v, %s): %v, %d, not %d", coll, s, itemsText(l), d, e, want)
					}
				}
			}
		}
	}
}

// P22.5: unlike documents may have one value, unless the index is unique; one may have it several times.
func TestIndexUnique(t *testing.T) {
	c := only(t, 0, "null")
	for _, l := range [][]api.Item{items("a {'t':1}", "b {'t':1}"), items("a {'t':[1,2]}", "b {'t':[2]}"), items("a {'t':null}", "x {}", "b {'t':[null]}")} {
		indexed(t, c, "c", spec("n"), l)
		d, e := c.Index("c", spec("n!"), l)
		wantRefused(t, itemsText(l), d, e, isUnique)
		wantColls(t, c, "c 0/100000 null {0 0} []")
	}
	for _, l := range [][]api.Item{nil, {}, items("a {'t':[1,1]}", "b {'t':[[1]]}"), items("a {}", "b {}"), items("a {'t':1}", "a {'t':1}"), items("a {'u':1}", "b {'u':1}")} {
		indexed(t, c, "c", spec("n!"), l)
	}
}

// P22.5: as many indexes as there may be, of each collection, and not one more.
func TestMostIndexes(t *testing.T) {
	c := created(t, only(t, 0, "null"), "d", 0, "null")
	for i := range maxIndexes {
		c = indexed(t, c, "c", api.Spec{Name: fmt.Sprint("n", i), Path: fmt.Sprint("p", i)}, nil)
	}
	d, e := c.Index("c", spec("o"), nil)
	wantRefused(t, "one more", d, e, isFull)
	indexed(t, c, "d", spec("o"), nil)
	c = indexed(t, unindexed(t, c, "c", "n3"), "c", spec("o"), nil)
	k, _ := c.Coll("c")
	if got := fmt.Sprint(k.Specs); got != "[{n0 p0 false} {n1 p1 false} {n2 p2 false} {n4 p4 false} {n5 p5 false} {n6 p6 false} {n7 p7 false} {o t false}]" {
		t.Error(got)
	}
}

// P22.5: the index goes, and it alone.
func TestUnindex(t *testing.T) {
	l := items("a {'t':1}", "b {'t':2}")
	c := committed(t, created(t, only(t, 0, "null"), "d", 0, "null"), "c", nil, l)
	for _, name := range []string{"m", "n!", "o"} {
		c = indexed(t, indexed(t, c, "c", spec(name), l), "d", spec(name), nil)
	}
	const other = "d 0/100000 null {0 0} [{m t false} {n t true} {o t false}]"
	for _, x := range []struct{ gone, left, next string }{
		{"m", "{n t true} {o t false}", "n"}, {"n", "{m t false} {o t false}", "m"}, {"o", "{m t false} {n t true}", "m"},
	} {
		d := unindexed(t, c, "c", x.gone)
		wantColls(t, d, "c 2/100000 null {0 0} ["+x.left+"]", other)
		wantChosen(t, d, "c", eq, "2", `["b"] `+x.next+" true")
		again, e := d.Unindex("c", x.gone)
		wantRefused(t, x.gone, again, e, isNone)
		wantColls(t, indexed(t, d, "c", spec(x.gone), l), "c 2/100000 null {0 0} ["+x.left+" {"+x.gone+" t false}]", other)
	}
	wantColls(t, c, "c 2/100000 null {0 0} [{m t false} {n t true} {o t false}]", other)
	d, e := c.Commit("c", nil, items("x {'t':1}"))
	wantRefused(t, "Commit", d, e, isUnique)
	committed(t, unindexed(t, c, "c", "n"), "c", nil, items("x {'t':1}")) // what is not there any more is not asked
}

// P22.5.
func TestUnindexErrors(t *testing.T) {
	c := created(t, indexed(t, only(t, 0, "null"), "c", spec("n"), nil), "d", 0, "null")
	for _, x := range []struct {
		name, index string
		want        api.Errno
	}{{"c", "m", isNone}, {"c", "", isNone}, {"c", "t", isNone}, {"c", "N", isNone}, {"d", "n", isNone}, {"e", "n", isColl}, {"e", "m", isColl}, {"", "n", isColl}, {"n", "c", isColl}} {
		d, e := c.Unindex(x.name, x.index)
		wantRefused(t, x.name+" "+x.index, d, e, x.want)
	}
}

// P22.8: the index and the need that index.Choose names.
func TestChoose(t *testing.T) {
	l := items("a {'t':1,'u':1}", "b {'t':2,'u':1}", "e {'t':3}")
	c := created(t, only(t, 0, "null"), "d", 0, "null")
	c = indexed(t, c, "c", api.Spec{Name: "u1", Path: "u"}, l)
	c = indexed(t, c, "c", api.Spec{Name: "t1", Path: "t"}, l)
	c = indexed(t, c, "c", api.Spec{Name: "t2", Path: "t"}, l[:1])
	need := func(path string, op int, v string) api.Need { return api.Need{Path: path, Op: op, Value: val(v)} }
	for _, x := range []struct {
		needs []api.Need
		want  string
	}{
		{nil, `[]  false`},
		{[]api.Need{need("x", eq, "1")}, `[]  false`},
		{[]api.Need{need("t", eq, "null"), need("t", in, "[null]"), need("t", 7, "1"), need("t", 0, "1")}, `[]  false`},
		{[]api.Need{need("t", gte, "2")}, `["b" "e"] t1 true`},
		{[]api.Need{need("t", gte, "2"), need("u", gt, "0")}, `["b" "e"] t1 true`},
		{[]api.Need{need("t", gte, "2"), need("u", in, "[1,2]")}, `["a" "b"] u1 true`},
		{[]api.Need{need("u", in, "[1,2]"), need("t", gte, "2"), need("t", eq, "3")}, `["e"] t1 true`},
		{[]api.Need{need("t", lt, "2"), need("t", eq, "9")}, `[] t1 true`},
		{[]api.Need{need("u", lte, "0"), need("t", gt, "0")}, `[] u1 true`},
	} {
		if got := chosen(c.Choose("c", x.needs)); got != x.want {
			t.Errorf("%v: %s, not %s", x.needs, got, x.want)
		}
		for _, name := range []string{"d", "e", "", "C"} {
			if ids, index, there := c.Choose(name, x.needs); ids != nil || index != "" || there {
				t.Errorf("%s: %q, %q, %v", name, ids, index, there)
			}
		}
	}
	if got := chosen(unindexed(t, c, "c", "t1").Choose("c", []api.Need{need("t", gte, "1")})); got != `["a"] t2 true` {
		t.Error(got)
	}
}
