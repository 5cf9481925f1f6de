package catalog_test

import (
	"fmt"
	"maps"
	"slices"
	"strings"
	"sync"
	"testing"

	"docket/api"
	"docket/catalog"
	"docket/filter"
	"docket/jsonval"
)

// P22.10: what is made from one catalog has no part in it, nor in what else is made from it.
func TestOldOnesStay(t *testing.T) {
	for n := range maxIndexes {
		c := created(t, only(t, 3, "{'required':['t']}"), "d", 0, "null")
		c = committed(t, c, "c", nil, items("a {'t':1}")).Moved("c", api.Ref{Num: 1})
		for i := range n {
			c = indexed(t, c, "c", spec(fmt.Sprint("p", i)), items("a {'t':1}"))
		}
		before := told(c)
		one, two := indexed(t, c, "c", spec("n"), nil), indexed(t, c, "c", spec("m!"), items("a {'t':2}"))
		were := []string{told(one), told(two)}
		for _, x := range []*catalog.Catalog{c, one, two} {
			created(t, x, "e", 5, "{}")
			dropped(t, x, "d")
			x.Moved("c", api.Ref{Num: 2})
			x.Moved("d", api.Ref{Num: 2})
			y := committed(t, x, "c", items("a {'t':1}"), items("a {'t':3}", "b {'t':5}"))
			committed(t, y, "c", items("a {'t':3}", "b {'t':5}"), nil)
			indexed(t, y, "d", spec("n"), items("a {'t':1}"))
			k, _ := x.Coll("c")
			for _, s := range k.Specs {
				z := unindexed(t, x, "c", s.Name)
				indexed(t, z, "c", spec("z"), items("a {'t':7}"))
			}
		}
		if told(c) != before || told(one) != were[0] || told(two) != were[1] {
			t.Errorf("%s\nhas become\n%s", before, told(c))
		}
	}
}

// set is the documents that a collection has, by their Keys.
type set map[string]api.Item

func (s set) list() []api.Item {
	var l []api.Item
	for _, key := range slices.Sorted(maps.Keys(s)) {
		l = append(l, s[key])
	}
	return l
}

// next is a change of documents that are there as was has them: some go, some become others, some come.
func (d dice) next(s set) (was, now []api.Item, then set) {
	then = maps.Clone(s)
	for range d.Intn(4) {
		key := d.key()
		if slices.ContainsFunc(slices.Concat(was, now), func(x api.Item) bool { return x.Key == key }) {
			continue
		}
		x := api.Item{Key: key, Version: int64(d.Intn(9)), Value: d.document()}
		old, there := s[key]
		if there {
			was = append(was, old)
			delete(then, key)
		}
		if !there || d.one(2) {
			now, then[key] = append(now, x), x
		}
	}
	return was, now, then
}

// matching are the rising Keys of the documents that the filter {Path: {operator: Value}} takes.
func matching(t *testing.T, s set, n api.Need) []string {
	t.Helper()
	operator := []string{"", "$eq", "$gt", "$gte", "$lt", "$lte", "$in"}[n.Op]
	f, e := filter.Parse(jsonval.Named([]string{n.Path}, jsonval.Named([]string{operator}, n.Value)))
	if e != isOK {
		t.Fatal(e)
	}
	var keys []string
	for _, x := range s.list() {
		if f.Match(x.Value) {
			keys = append(keys, x.Key)
		}
	}
	return keys
}

// wantTelling holds the count, and each index alone, against the documents.
func wantTelling(t *testing.T, c *catalog.Catalog, has set) {
	t.Helper()
	k, _ := c.Coll("c")
	if k.Count != len(has) || k.Count > k.Most {
		t.Fatalf("%d of %d, not %d", k.Count, k.Most, len(has))
	}
	for _, s := range k.Specs {
		alone := c
		for _, other := range k.Specs {
			if other != s {
				alone = unindexed(t, alone, "c", other.Name)
			}
		}
		for _, n := range append(probes(s.Path), api.Need{Path: s.Path, Op: in, Value: val("[1,[1,2],{'u':1}]")}, api.Need{Path: s.Path, Op: lte, Value: val("3")}) {
			if n.Op == eq && n.Value.Kind == api.Null {
				continue
			}
			if got, want := chosen(alone.Choose("c", []api.Need{n})), chosen(matching(t, has, n), s.Name, true); got != want {
				t.Fatalf("%d %s at %v of %s: %s, not %s", n.Op, full(n.Value), s, itemsText(has.list()), got, want)
			}
		}
	}
}

// P22.11: the count is how many documents there are, and each index tells what a filter tells, whether it was made ahead of them or behind.
func TestTellsWhatIsThere(t *testing.T) {
	d := newDice(2211)
	count := map[api.Errno]int{}
	for range 120 {
		c, e := catalog.New().Create("c", pick[int64](d, 0, 3, 4, 5), d.rules())
		c, has := taken(t, c, e), set{}
		for range 25 {
			if d.one(5) {
				s := d.spec()
				s.Unique = d.one(5)
				if x, e := c.Index("c", s, has.list()); e == isOK {
					c = x
				}
			}
			was, now, then := d.next(has)
			x, e := c.Commit("c", was, now)
			if count[e]++; e == isOK {
				c, has = x, then
			}
			wantTelling(t, c, has)
		}
	}
	if count[isOK] < 500 || count[isFull] < 50 || count[isUnique] < 20 || count[isSchema] < 50 {
		t.Errorf("%v: that says little", count)
	}
}

// rebuilt is a catalog with the same collections as one whose collection c has these documents: made in another order, by other Commits, with others in between that have gone, and with much that is refused.
func (d dice) rebuilt(t *testing.T, c *catalog.Catalog, has set) *catalog.Catalog {
	t.Helper()
	r := created(t, catalog.New(), "gone", 1, "{}")
	names := c.Names()
	for _, at := range d.Perm(len(names)) {
		k, _ := c.Coll(names[at])
		x, e := r.Create(k.Name, int64(k.Most), k.Schema)
		r = taken(t, x, e).Moved(k.Name, api.Ref{Num: 9}).Moved(k.Name, k.Top)
		r.Create(k.Name, 0, api.Value{})
		r.Create("x", -1, api.Value{})
		r.Drop("y")
	}
	k, _ := c.Coll("c")
	specs, docs := k.Specs, has.list()
	d.Shuffle(len(docs), func(i, j int) { docs[i], docs[j] = docs[j], docs[i] })
	for n := 0; n < len(docs) || len(specs) > 0; {
		r.Commit("c", nil, append(crowd(k.Most), docs...))
		r.Unindex("c", "none")
		if len(specs) > 0 && (n == len(docs) || d.one(2)) {
			r = indexed(t, indexed(t, r, "c", api.Spec{Name: "gone", Path: "t"}, nil), "c", specs[0], docs[:n])
			r, specs = unindexed(t, r, "c", "gone"), specs[1:]
			continue
		}
		r = committed(t, r, "c", nil, docs[n:n+1])
		r = committed(t, r, "c", docs[n:n+1], docs[n:n+1])
		n++
	}
	return dropped(t, r, "gone")
}

// P22.12: what is refused is refused of every catalog with the same collections alike, and so is all else that they answer.
func TestSameCollectionsAlike(t *testing.T) {
	d := newDice(2212)
	refused := 0
	for range 60 {
		c, e := catalog.New().Create("c", pick[int64](d, 3, 4, 5), d.rules())
		c, has := created(t, taken(t, c, e), "d", 2, "null").Moved("d", api.Ref{Num: 4}), set{}
		for range 25 {
			if x, e := c.Index("c", d.spec(), has.list()); d.one(5) && e == isOK {
				c = x
			}
			was, now, then := d.next(has)
			if x, e := c.Commit("c", was, now); e == isOK {
				c, has = x, then
			}
		}
		r := d.rebuilt(t, c, has)
		if told(r) != told(c) {
			t.Fatalf("%s, not %s", told(r), told(c))
		}
		for range 60 {
			x := d.call(state{docs: has.list()})
			a, e := x.cat(c)
			b, no := x.cat(r)
			if e != no || told(a) != told(b) || told(r) != told(c) {
				t.Fatalf("%s of %s: %d and %d", x.text, told(c), e, no)
			}
			if e != isOK {
				refused++
			}
			if name, needs := d.name(), d.needs(); chosen(c.Choose(name, needs)) != chosen(r.Choose(name, needs)) {
				t.Fatalf("Choose(%s, %v) of %s", name, needs, told(c))
			}
		}
	}
	if refused < 800 {
		t.Errorf("%d refused: that says little", refused)
	}
}

// P22.12: with an error nothing is made, and the catalog takes what it took before.
func TestRefusedMakesNothing(t *testing.T) {
	l := items("a {'t':1}")
	c := indexed(t, committed(t, only(t, 2, "{'required':['t']}"), "c", nil, l), "c", spec("n!"), l)
	before := told(c)
	for range 3 {
		for text, refuse := range map[string]func() (*catalog.Catalog, api.Errno){
			"Create": func() (*catalog.Catalog, api.Errno) { return c.Create("c", 0, api.Value{}) },
			"rule":   func() (*catalog.Catalog, api.Errno) { return c.Create("e", 0, val("5")) },
			"Drop":   func() (*catalog.Catalog, api.Errno) { return c.Drop("c") },
			"Index":  func() (*catalog.Catalog, api.Errno) { return c.Index("c", spec("m!"), items("a {'t':1}", "b {'t':1}")) },
			"schema": func() (*catalog.Catalog, api.Errno) { return c.Commit("c", l, items("b {'t':1}", "e {}")) },
			"full":   func() (*catalog.Catalog, api.Errno) { return c.Commit("c", nil, items("b {'t':2}", "e {'t':3}")) },
			"unique": func() (*catalog.Catalog, api.Errno) { return c.Commit("c", nil, items("b {'t':1}")) },
		} {
			if d, e := refuse(); d != nil || e == isOK {
				t.Error(text, d, e)
			}
			if told(c) != before {
				t.Fatalf("%s: %s has become %s", text, before, told(c))
			}
		}
	}
	wantCount(t, committed(t, c, "c", nil, items("b {'t':2}")), 2)
}

// Rule 3: lists that are handed in are neither changed nor kept, their spare room neither.
func TestArgumentsStay(t *testing.T) {
	roomy := func(texts ...string) []api.Item {
		return append(append(make([]api.Item, 0, len(texts)+2), items(texts...)...), items("s {'t':7}", "s {'t':7}")...)[:len(texts)]
	}
	was, now := roomy("z {'t':4}", "a {'t':0}"), roomy("b {'t':[3,1,2]}", "a {'t':5}", "e {}")
	all := func() string { return itemsText(was[:cap(was)]) + itemsText(now[:cap(now)]) }
	before := all()
	c := indexed(t, only(t, 0, "{}"), "c", spec("n!"), was)
	d := indexed(t, committed(t, c, "c", was, now), "c", spec("m"), now)
	needs := append(make([]api.Need, 0, 3), api.Need{Path: "t", Op: gt}, api.Need{Path: "t", Op: in, Value: val("[5,3]")}, api.Need{Path: "x"})[:2]
	ids, _, _ := d.Choose("c", needs)
	if all() != before || fmt.Sprint(ids) != "[a b]" || needs[0].Op != gt || full(needs[1].Value) != "[5,3]" || needs[:3][2].Path != "x" {
		t.Errorf("%s has become %s; %v, %v", before, all(), ids, needs[:3])
	}
	were := []string{told(c), told(d)}
	for i := range now {
		now[i] = items("q {'t':2}")[0]
	}
	clear(was)
	if told(c) != were[0] || told(d) != were[1] {
		t.Errorf("%s and %s, not %q", told(c), told(d), were)
	}
}

// Rule 3: lists that are answered are new each time, spare room too.
func TestAnswersAreNew(t *testing.T) {
	c := created(t, created(t, only(t, 0, "null"), "d", 0, "null"), "e", 0, "null")
	l := items("a {'t':5}", "b {'t':5}", "x {'t':5}")
	for i := range 5 {
		c = indexed(t, c, "c", spec(fmt.Sprint("n", i)), l)
		before := told(c)
		k, _ := c.Coll("c")
		specs := k.Specs[:cap(k.Specs)]
		for j := range specs {
			specs[j] = api.Spec{Name: "other"}
		}
		names := c.Names()
		names = names[:cap(names)]
		for j := range names {
			names[j] = "other"
		}
		ids, _, _ := c.Choose("c", []api.Need{{Path: "t", Op: eq, Value: val("5")}})
		ids = ids[:cap(ids)]
		for j := range ids {
			ids[j] = "other"
		}
		if told(c) != before || strings.Join(c.Names(), " ") != "c d e" {
			t.Fatalf("%s has become %s", before, told(c))
		}
		if more := indexed(t, c, "c", spec("m"), l); !strings.Contains(told(more), fmt.Sprint("{n", i, " t false} {m t false}]")) {
			t.Fatal(told(more))
		}
	}
}

// Rule 1: of Values that are none nothing is promised but that every call ends and none panics; the count is as it must be.
func TestValuesThatAreNone(t *testing.T) {
	held := func(v ...api.Value) api.Value { return jsonval.Named([]string{"t"}, jsonval.Listed(v...)) }
	for _, name := range []string{"n", "n!"} {
		for _, rules := range []string{"null", "{'properties':{'t':{'items':{'type':'int'}}}}"} {
			for _, v := range noValues() {
				c := indexed(t, only(t, 0, rules), "c", spec(name), nil)
				for _, w := range noValues() {
					now := []api.Item{{Key: "a", Value: held(v, w)}, {Key: "b", Value: w}, {Key: "a", Value: held(w)}, {Key: "\xff", Value: v}}
					for i := range now {
						if d, e := c.Commit("c", now[:i], now[i:]); e == isOK {
							before, _ := c.Coll("c")
							wantCount(t, d, before.Count+len(now)-2*i)
							c = d
						}
						c.Index("c", spec("m!"), now[i:])
						c.Choose("c", []api.Need{{Path: "t", Op: gte, Value: v}, {Path: "t", Op: in, Value: held(w)}})
					}
				}
			}
		}
	}
}

// A catalog is read by many while others are made from it.
func TestBesideOneAnother(t *testing.T) {
	l := items("a {'t':5}", "b {'t':[1,7]}")
	c := created(t, committed(t, only(t, 4, "{'required':['t']}"), "c", nil, l), "d", 0, "null")
	c = indexed(t, indexed(t, c, "c", spec("n!"), l), "c", spec("m"), l)
	before := told(c)
	faults := make([]string, 8)
	var wait sync.WaitGroup
	for i := range faults {
		wait.Go(func() {
			for n := range 40 {
				made, e := c.Commit("c", l[n%2:n%2+1], items(fmt.Sprint("k", n, " {'t':", 10+n, "}")))
				more, no := made.Index("c", spec("o"), l)
				if k, _ := more.Moved("d", api.Ref{Num: n}).Coll("c"); e != isOK || no != isOK || k.Count != 2 || len(k.Specs) != 3 {
					faults[i] = told(more)
				}
				made.Create(fmt.Sprint("e", n), 0, val("{}"))
				made.Unindex("c", "m")
				made.Drop("d")
				if now := told(c); now != before {
					faults[i] = now
				}
			}
		})
	}
	wait.Wait()
	for _, fault := range faults {
		if fault != "" {
			t.Error(fault)
		}
	}
}
