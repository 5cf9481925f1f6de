package catalog_test

import (
	"fmt"
	"math"
	"slices"
	"strings"
	"testing"

	"docket/api"
	"docket/catalog"
	"docket/jsonval"
)

// P22.1.
func TestNew(t *testing.T) {
	c, d := catalog.New(), catalog.New()
	if c == nil || d == nil {
		t.Fatal("no catalog")
	}
	wantColls(t, c)
	wantNoColl(t, c, "c", "", "C")
	only := created(t, c, "c", 0, "null")
	wantColls(t, c)
	wantColls(t, d)
	wantColls(t, catalog.New())
	wantColls(t, only, "c 0/100000 null {0 0} []")
}

func wantNoColl(t *testing.T, c *catalog.Catalog, names ...string) {
	t.Helper()
	for _, name := range names {
		if k, there := c.Coll(name); there || collText(k) != collText(api.Coll{}) || k.Specs != nil {
			t.Errorf("%q: %v, %v", name, k, there)
		}
	}
}

// P22.2: rising, byte by byte, whatever the order in which they were made.
func TestNames(t *testing.T) {
	want := []string{"a", "a-", "a-1", "a.", "a0", "aa", "a_", "b", "b.a", "c", "z"}
	slices.Sort(want)
	d := newDice(221)
	for range 50 {
		c := catalog.New()
		for i, at := range d.Perm(len(want)) {
			c = created(t, c, want[at], 0, "null")
			names := c.Names()
			if len(names) != i+1 || !slices.IsSorted(names) || !slices.Contains(names, want[at]) {
				t.Fatalf("%q", names)
			}
		}
		if got := c.Names(); !slices.Equal(got, want) {
			t.Fatalf("%q, not %q", got, want)
		}
		for _, at := range d.Perm(len(want))[:5] {
			c = dropped(t, c, want[at])
			if names := c.Names(); slices.Contains(names, want[at]) || !slices.IsSorted(names) {
				t.Fatalf("%q", names)
			}
		}
		if len(c.Names()) != len(want)-5 {
			t.Fatalf("%q", c.Names())
		}
	}
}

// P22.2: all that is told of a collection, and nothing of another one.
func TestColl(t *testing.T) {
	c := created(t, only(t, 3, "{'required':['t']}"), "d", 0, "null")
	c = committed(t, c, "c", nil, items("a {'t':1}", "b {'t':2}"))
	c = c.Moved("c", api.Ref{Num: 7, Gen: 2})
	c = indexed(t, c, "c", spec("z!"), items("a {'t':1}", "b {'t':2}"))
	c = indexed(t, c, "c", api.Spec{Name: "a", Path: "t.0.u"}, nil)
	c = indexed(t, c, "c", spec("m"), nil)
	wantColls(t, c, `c 2/3 {"required":["t"]} {7 2} [{z t true} {a t.0.u false} {m t false}]`, "d 0/100000 null {0 0} []")
	wantNoColl(t, c, "", "e", "C", "c ", "cd", "c\x00", "z")
	if k, there := c.Coll("c"); !there || k.Name != "c" || k.Count != 2 || k.Most != 3 || full(k.Schema) != `{"required":["t"]}` || k.Top != (api.Ref{Num: 7, Gen: 2}) ||
		!slices.Equal(k.Specs, []api.Spec{{Name: "z", Path: "t", Unique: true}, {Name: "a", Path: "t.0.u"}, {Name: "m", Path: "t"}}) {
		t.Error(k, there)
	}
}

// P22.3: how many documents there may be.
func TestMost(t *testing.T) {
	for _, most := range []int64{0, 1, 2, 31, maxCapacity - 1, maxCapacity} {
		want := most
		if most == 0 {
			want = maxCapacity
		}
		wantColls(t, only(t, most, "null"), fmt.Sprint("c 0/", want, " null {0 0} []"))
	}
	for _, most := range []int64{-1, -2, maxCapacity + 1, maxCapacity * 2, math.MinInt64, math.MaxInt64, 1 << 32, 1<<32 + 1, -1 << 32, 1 - 1<<32} {
		c, e := catalog.New().Create("c", most, api.Value{})
		wantRefused(t, fmt.Sprint(most), c, e, isCapacity)
	}
}

// P22.3: what may be a collection's name.
func TestCreateNames(t *testing.T) {
	for _, name := range []string{"a", "z", "c-1", "orders.new", "a_b", "a--", strings.Repeat("n", 32)} {
		c, e := catalog.New().Create(name, 5, api.Value{})
		wantColls(t, taken(t, c, e), name+" 0/5 null {0 0} []")
	}
	for _, name := range []string{"", "C", "1", "-", "a b", "a/b", "é", "aé", ".a", "\x00", strings.Repeat("n", 33), " a", "a\n"} {
		c, e := catalog.New().Create(name, 5, api.Value{})
		wantRefused(t, name, c, e, isArg)
	}
}

// P22.3: schemas, and what is none.
func TestCreateSchemas(t *testing.T) {
	for _, text := range []string{"null", "{}", "{'type':'object'}", "{'required':['b','a'],'properties':{'a':{'minimum':1}}}"} {
		k, _ := only(t, 0, text).Coll("c")
		if !jsonval.Equal(k.Schema, val(text)) {
			t.Errorf("%s: %s", text, full(k.Schema))
		}
	}
	var rules []api.Value
	for range 128 {
		rules = append(rules, val("{'minimum':1}"))
	}
	great := func(n int) api.Value { return jsonval.Named([]string{"allOf"}, jsonval.Listed(rules[:n]...)) }
	deep := val("{}")
	for range 8 {
		deep = jsonval.Named([]string{"items"}, deep)
	}
	for _, v := range []api.Value{great(127), deep} {
		c, e := catalog.New().Create("c", 0, v)
		if k, _ := taken(t, c, e).Coll("c"); !jsonval.Equal(k.Schema, v) {
			t.Errorf("%s, not %s", full(k.Schema), full(v))
		}
	}
	for _, c := range []struct {
		v api.Value
		e api.Errno
	}{
		{val("{'kind':1}"), isRule}, {val("[]"), isRule}, {val("5"), isRule}, {val("false"), isRule}, {val("''"), isRule}, {val("{'type':[]}"), isRule},
		{great(128), isRules}, {jsonval.Named([]string{"not"}, deep), isRules},
		{api.Value{Kind: 7}, isValue}, {api.Value{Kind: -1}, isValue}, {api.Value{Kind: api.Object, Int: 1}, isValue}, {nested(64, api.Value{Kind: api.List}), api.ErrDepth},
		{jsonval.Named([]string{"a", "a"}, val("1"), val("1")), api.ErrName},
	} {
		d, e := catalog.New().Create("c", 0, c.v)
		wantRefused(t, full(c.v), d, e, c.e)
	}
}

// P22.3: a schema whose Kind is Null is none, whatever else stands in it.
func TestNullIsNoSchema(t *testing.T) {
	for _, v := range []api.Value{{}, {Int: 1}, {Text: "\xff"}, {Names: []string{"kind"}, Items: []api.Value{{Kind: 9}}}} {
		c, e := catalog.New().Create("c", 1, v)
		c = taken(t, c, e)
		wantColls(t, c, "c 0/1 null {0 0} []")
		wantColls(t, committed(t, c, "c", nil, items("a 5")), "c 1/1 null {0 0} []")
	}
}

// P22.3: of several errors the first, in the document's order.
func TestCreateErrorsInOrder(t *testing.T) {
	some := only(t, 1, "null")
	most := filled(t, some, maxColls-1)
	for _, c := range []*catalog.Catalog{some, most} {
		before := told(c)
		for _, name := range []string{"d", "c", "C"} {
			for _, n := range []int64{1, -1} {
				for _, rules := range []string{"null", "{'type':'object'}", "{'kind':1}"} {
					want := api.Errno(isOK)
					switch {
					case name == "C":
						want = isArg
					case name == "c":
						want = isThere
					case n == -1:
						want = isCapacity
					case rules == "{'kind':1}":
						want = isRule
					case c == most:
						want = isFull
					}
					d, e := c.Create(name, n, val(rules))
					if e != want || (d == nil) != (want != isOK) {
						t.Errorf("Create(%s, %d, %s) of %d: %v, %d, not %d", name, n, rules, len(c.Names()), d, e, want)
					}
				}
			}
		}
		if told(c) != before {
			t.Errorf("%s has become %s", before, told(c))
		}
	}
}

// P22.3: as many collections as there may be, and not one more; one that has gone leaves its place.
func TestMostCollections(t *testing.T) {
	c := filled(t, catalog.New(), maxColls)
	if len(c.Names()) != maxColls {
		t.Fatal(len(c.Names()))
	}
	for range 3 {
		d, e := c.Create("c", 0, api.Value{})
		wantRefused(t, "one more", d, e, isFull)
	}
	d := created(t, dropped(t, c, "n17"), "c", 0, "null")
	e, no := d.Create("n17", 0, api.Value{})
	wantRefused(t, "the one that has gone", e, no, isFull)
	if len(c.Names()) != maxColls || len(d.Names()) != maxColls {
		t.Error(c.Names(), d.Names())
	}
}

// P22.4: a collection without documents goes, and it alone.
func TestDrop(t *testing.T) {
	c := created(t, only(t, 2, "{'required':['t']}"), "d", 0, "null")
	c = indexed(t, c, "c", spec("n!"), nil).Moved("c", api.Ref{Num: 1, Gen: 1})
	wantColls(t, dropped(t, c, "c"), "d 0/100000 null {0 0} []")
	wantColls(t, dropped(t, c, "d"), `c 0/2 {"required":["t"]} {1 1} [{n t true}]`)
	wantColls(t, dropped(t, dropped(t, c, "d"), "c"))
	again := created(t, dropped(t, c, "c"), "c", 0, "null") // nothing is left of what it was
	wantColls(t, again, "c 0/100000 null {0 0} []", "d 0/100000 null {0 0} []")
	wantColls(t, committed(t, again, "c", nil, items("a {}", "b 5", "e {'t':1}", "f {'t':1}")), "c 4/100000 null {0 0} []", "d 0/100000 null {0 0} []")
}

// P22.4.
func TestDropErrors(t *testing.T) {
	c := created(t, committed(t, only(t, 0, "null"), "c", nil, items("a {}")), "d", 0, "null")
	for name, want := range map[string]api.Errno{"c": isNotEmpty, "e": isColl, "": isColl, "C": isColl, "c ": isColl, "a": isColl} {
		d, e := c.Drop(name)
		wantRefused(t, name, d, e, want)
	}
	empty := committed(t, c, "c", items("a {}"), nil)
	wantColls(t, dropped(t, empty, "c"), "d 0/100000 null {0 0} []")
	d, e := committed(t, empty, "c", items("a {}"), nil).Drop("c") // of fewer than none: its count is not 0 either
	wantRefused(t, "a count of -1", d, e, isNotEmpty)
	d, e = dropped(t, c, "d").Drop("d")
	wantRefused(t, "twice", d, e, isColl)
}

// P22.7.
func TestMoved(t *testing.T) {
	c := created(t, only(t, 2, "{'type':'object'}"), "d", 0, "null")
	c = indexed(t, committed(t, c, "c", nil, items("a {'t':1}")), "c", spec("n!"), items("a {'t':1}"))
	for _, top := range []api.Ref{{Num: 3, Gen: 1}, {Num: 3, Gen: 2}, {}, {Num: -1, Gen: math.MaxInt}} {
		d := c.Moved("c", top)
		wantColls(t, d, fmt.Sprint(`c 1/2 {"type":"object"} `, top, ` [{n t true}]`), "d 0/100000 null {0 0} []")
		if entriesText(d, "c") != entriesText(c, "c") {
			t.Error(entriesText(d, "c"))
		}
		c = d
	}
	for _, name := range []string{"", "e", "C", "n"} {
		if d := c.Moved(name, api.Ref{Num: 9, Gen: 9}); d != c {
			t.Errorf("%q: another catalog", name)
		}
	}
	both := c.Moved("c", api.Ref{Num: 1}).Moved("d", api.Ref{Num: 2})
	wantColls(t, both, `c 1/2 {"type":"object"} {1 0} [{n t true}]`, "d 0/100000 null {2 0} []")
	wantColls(t, committed(t, both, "d", nil, items("a 1")), `c 1/2 {"type":"object"} {1 0} [{n t true}]`, "d 1/100000 null {2 0} []")
}

// P22.9.
func TestNil(t *testing.T) {
	var c *catalog.Catalog
	if names := c.Names(); len(names) != 0 {
		t.Error(names)
	}
	wantNoColl(t, c, "c", "", "C")
	for _, name := range []string{"c", "", "C"} {
		for _, most := range []int64{0, -1} {
			d, e := c.Create(name, most, val("5"))
			wantRefused(t, "Create", d, e, isOK)
		}
		d, e := c.Drop(name)
		wantRefused(t, "Drop", d, e, isOK)
		d, e = c.Index(name, api.Spec{}, items("a {}"))
		wantRefused(t, "Index", d, e, isOK)
		d, e = c.Index(name, spec("n!"), items("a {'t':1}", "b {'t':1}"))
		wantRefused(t, "Index", d, e, isOK)
		d, e = c.Unindex(name, "n")
		wantRefused(t, "Unindex", d, e, isOK)
		d, e = c.Commit(name, nil, items("a {}"))
		wantRefused(t, "Commit", d, e, isOK)
		if d := c.Moved(name, api.Ref{Num: 1}); d != nil {
			t.Error("Moved", d)
		}
		if ids, index, there := c.Choose(name, probes("t")); ids != nil || index != "" || there {
			t.Error("Choose", ids, index, there)
		}
	}
}

// The chapter's examples.
func TestExamples(t *testing.T) {
	c := only(t, 2, "null")
	for _, x := range []struct {
		name string
		most int64
		want api.Errno
	}{{"c", 2, isThere}, {"C", 2, isArg}, {"d", -1, isCapacity}} {
		d, e := c.Create(x.name, x.most, api.Value{})
		wantRefused(t, x.name, d, e, x.want)
	}
	l := items("a {'t':5}", "b {'t':6}")
	c = committed(t, c, "c", nil, l)
	wantColls(t, c, "c 2/2 null {0 0} []")
	d, e := c.Commit("c", nil, items("x {}"))
	wantRefused(t, "Commit(x)", d, e, isFull)
	committed(t, c, "c", l[:1], items("a {'t':7}"))
	d, e = c.Drop("c")
	wantRefused(t, "Drop", d, e, isNotEmpty)
	d, e = c.Commit("x", nil, items("a {}"))
	wantRefused(t, "Commit of x", d, e, isColl)
	c = indexed(t, c, "c", spec("n!"), l)
	d, e = c.Commit("c", l[:1], items("a {'t':6}"))
	wantRefused(t, "Commit(a)", d, e, isUnique)
	if got := chosen(c.Choose("c", []api.Need{{Path: "t", Op: eq, Value: val("5")}})); got != `["a"] n true` {
		t.Error(got)
	}
}
