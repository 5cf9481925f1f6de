package catalog_test

import (
	"fmt"
	"math"
	"slices"
	"strings"
	"testing"

	"docket/api"
	"docket/catalog"
	"docket/ident"
	"docket/index"
	"docket/jsonval"
	"docket/schema"
)

// The chapter's words, written plainly: what the package answers is held against what they say.

// words are all collections, in whatever order; each change makes another list, all the way down.
type words []wordColl

type wordColl struct {
	api.Coll
	indexes []*index.Index
}

func (w words) at(name string) int {
	return slices.IndexFunc(w, func(k wordColl) bool { return k.Name == name })
}

// put is w with a collection at a place, or behind the others.
func (w words) put(at int, k wordColl) words {
	w = append(words{}, w...)
	if at == len(w) {
		return append(w, k)
	}
	w[at] = k
	return w
}

// create is P22.3.
func (w words) create(name string, most int64, rules api.Value) (words, api.Errno) {
	if !ident.Name(name) {
		return nil, isArg
	}
	if w.at(name) >= 0 {
		return nil, isThere
	}
	if most < 0 || most > maxCapacity {
		return nil, isCapacity
	}
	if most == 0 {
		most = maxCapacity
	}
	k := wordColl{Coll: api.Coll{Name: name, Most: int(most)}}
	if rules.Kind != api.Null {
		if _, e := schema.Parse(rules); e != isOK {
			return nil, e
		}
		k.Schema = rules
	}
	if len(w) == maxColls {
		return nil, isFull
	}
	return w.put(len(w), k), isOK
}

// drop is P22.4.
func (w words) drop(name string) (words, api.Errno) {
	at := w.at(name)
	if at < 0 {
		return nil, isColl
	}
	if w[at].Count != 0 {
		return nil, isNotEmpty
	}
	return slices.Delete(append(words{}, w...), at, at+1), isOK
}

// index is P22.5.
func (w words) index(name string, s api.Spec, l []api.Item) (words, api.Errno) {
	at := w.at(name)
	if at < 0 {
		return nil, isColl
	}
	k := w[at]
	x, e := index.New(s)
	if e != isOK {
		return nil, e
	}
	for _, other := range k.Specs {
		if other.Name == s.Name {
			return nil, isThere
		}
	}
	if len(k.Specs) == maxIndexes {
		return nil, isFull
	}
	if x, _, e = x.Change(nil, l); e != isOK {
		return nil, isUnique
	}
	k.Specs = append(slices.Clip(k.Specs), s)
	k.indexes = append(slices.Clip(k.indexes), x)
	return w.put(at, k), isOK
}

// unindex is P22.5.
func (w words) unindex(name, gone string) (words, api.Errno) {
	at := w.at(name)
	if at < 0 {
		return nil, isColl
	}
	k := w[at]
	var specs []api.Spec
	var indexes []*index.Index
	for i, s := range k.Specs {
		if s.Name != gone {
			specs, indexes = append(specs, s), append(indexes, k.indexes[i])
		}
	}
	if len(specs) == len(k.Specs) {
		return nil, isNone
	}
	k.Specs, k.indexes = specs, indexes
	return w.put(at, k), isOK
}

// commit is P22.6.
func (w words) commit(name string, was, now []api.Item) (words, api.Errno) {
	at := w.at(name)
	if at < 0 {
		return nil, isColl
	}
	k := w[at]
	if k.Schema.Kind != api.Null {
		s, _ := schema.Parse(k.Schema)
		for _, x := range now {
			if e := s.Check(x.Value); e != isOK {
				return nil, e
			}
		}
	}
	if len(now) > len(was) && k.Count+len(now)-len(was) > k.Most {
		return nil, isFull
	}
	k.Count += len(now) - len(was)
	k.indexes = slices.Clone(k.indexes)
	for i, x := range k.indexes {
		y, _, e := x.Change(was, now)
		if e != isOK {
			return nil, isUnique
		}
		k.indexes[i] = y
	}
	return w.put(at, k), isOK
}

// moved is P22.7.
func (w words) moved(name string, top api.Ref) words {
	at := w.at(name)
	if at < 0 {
		return w
	}
	k := w[at]
	k.Top = top
	return w.put(at, k)
}

// choose is P22.8.
func (w words) choose(name string, needs []api.Need) string {
	if at := w.at(name); at >= 0 {
		if i, n, there := index.Choose(w[at].indexes, needs); there {
			return chosen(w[at].indexes[i].Ids(needs[n].Op, needs[n].Value), w[at].Specs[i].Name, true)
		}
	}
	return chosen(nil, "", false)
}

// told is as the one of a catalog: by rising names, of each index what it alone tells.
func (w words) told() string {
	w = append(words{}, w...)
	slices.SortFunc(w, func(a, b wordColl) int { return strings.Compare(a.Name, b.Name) })
	var all []string
	for _, k := range w {
		var entries []string
		for i, x := range k.indexes {
			for _, n := range probes(k.Specs[i].Path) {
				if x.Serves(n) {
					entries = append(entries, chosen(x.Ids(n.Op, n.Value), k.Specs[i].Name, true))
				} else {
					entries = append(entries, chosen(nil, "", false))
				}
			}
		}
		all = append(all, collText(k.Coll), strings.Join(entries, "; "))
	}
	return strings.Join(all, "\n")
}

// state is a catalog, what the words say of it, and the documents of its collections as far as they came by Commits.
type state struct {
	c    *catalog.Catalog
	w    words
	docs []api.Item
}

// call is one that changes, as a catalog takes it and as the words say it.
type call struct {
	text string
	cat  func(c *catalog.Catalog) (*catalog.Catalog, api.Errno)
	word func(w words) (words, api.Errno)
	now  []api.Item
}

// call is any, mostly of a collection that there may be, often with something wrong.
func (d dice) call(s state) call {
	name := d.name()
	if d.one(12) {
		name = pick(d, "", "C", "no", "c ", strings.Repeat("n", 33), "é")
	}
	switch kind := d.Intn(14); {
	case kind < 2:
		return d.create(name)
	case kind == 2:
		return call{"Drop " + name,
			func(c *catalog.Catalog) (*catalog.Catalog, api.Errno) { return c.Drop(name) },
			func(w words) (words, api.Errno) { return w.drop(name) }, nil}
	case kind < 6:
		return d.index(name, s)
	case kind == 6:
		gone := pick(d, "n", "m", "o", "p0", "p1", "", "N")
		return call{"Unindex " + name + " " + gone,
			func(c *catalog.Catalog) (*catalog.Catalog, api.Errno) { return c.Unindex(name, gone) },
			func(w words) (words, api.Errno) { return w.unindex(name, gone) }, nil}
	case kind == 7:
		top := api.Ref{Num: d.Intn(9), Gen: d.Intn(3)}
		return call{fmt.Sprint("Moved ", name, top),
			func(c *catalog.Catalog) (*catalog.Catalog, api.Errno) { return c.Moved(name, top), isOK },
			func(w words) (words, api.Errno) { return w.moved(name, top), isOK }, nil}
	}
	return d.commit(name, s)
}

func (d dice) create(name string) call {
	most := pick[int64](d, 0, 1, 2, 3, 3, 4, 5, maxCapacity)
	rules := d.rules()
	if d.one(6) {
		most = pick[int64](d, -1, maxCapacity+1, math.MinInt64, math.MaxInt64, 1<<32+1)
	}
	if d.one(6) {
		rules = pick(d, append(noValues(), val("{'kind':1}"), val("5"), val("{'type':'number'}"), api.Value{Int: 1})...)
	}
	return call{fmt.Sprint("Create ", name, most, full(rules)),
		func(c *catalog.Catalog) (*catalog.Catalog, api.Errno) { return c.Create(name, most, rules) },
		func(w words) (words, api.Errno) { return w.create(name, most, rules) }, nil}
}

func (d dice) index(name string, s state) call {
	x, l := d.spec(), s.docs
	if d.one(6) {
		x = pick(d, api.Spec{}, api.Spec{Name: "N", Path: "t"}, api.Spec{Name: "n"}, api.Spec{Name: "q", Path: "t..u"})
	}
	if d.one(2) {
		l = d.items(6)
	}
	return call{fmt.Sprint("Index ", name, x, itemsText(l)),
		func(c *catalog.Catalog) (*catalog.Catalog, api.Errno) { return c.Index(name, x, l) },
		func(w words) (words, api.Errno) { return w.index(name, x, l) }, nil}
}

func (d dice) commit(name string, s state) call {
	var was []api.Item
	for _, x := range s.docs {
		if d.one(3) {
			was = append(was, x)
		}
	}
	if d.one(5) {
		was = d.items(5)
	}
	now := d.items(4)
	return call{fmt.Sprint("Commit ", name, itemsText(was), " | ", itemsText(now)),
		func(c *catalog.Catalog) (*catalog.Catalog, api.Errno) { return c.Commit(name, was, now) },
		func(w words) (words, api.Errno) { return w.commit(name, was, now) }, now}
}

// start is a state at which a run begins: mostly nothing is there, or about as much as may be.
func (d dice) start(t *testing.T) state {
	s := state{c: catalog.New()}
	play := func(name string, cat *catalog.Catalog, e api.Errno, w words, no api.Errno) {
		t.Helper()
		if e != isOK || no != isOK {
			t.Fatal(name, e, no)
		}
		s.c, s.w = cat, w
	}
	if d.one(3) {
		for i := range maxColls - 1 - d.Intn(3) {
			name := fmt.Sprint("f", i)
			cat, e := s.c.Create(name, 0, api.Value{})
			w, no := s.w.create(name, 0, api.Value{})
			play(name, cat, e, w, no)
		}
	}
	if d.one(2) {
		rules := d.rules()
		cat, e := s.c.Create("c", 4, rules)
		w, no := s.w.create("c", 4, rules)
		play("c", cat, e, w, no)
		for i := range d.Intn(maxIndexes) {
			x := api.Spec{Name: fmt.Sprint("p", i), Path: d.path(), Unique: d.one(4)}
			cat, e := s.c.Index("c", x, nil)
			w, no := s.w.index("c", x, nil)
			play(x.Name, cat, e, w, no)
		}
	}
	return s
}

// needs are some, of which many are served by no index.
func (d dice) needs() []api.Need {
	var l []api.Need
	for range d.Intn(4) {
		l = append(l, pick(d, append(probes(d.path()), api.Need{Path: d.path(), Op: in, Value: val("[1,2,'x']")}, api.Need{Path: d.path(), Op: lt, Value: val("3")}, api.Need{Path: "t", Op: 7}, api.Need{Path: "t", Op: in, Value: val("[null]")})...))
	}
	return l
}

// All promises of 22.1 and P22.10: whatever is made of which catalog, it is as the words say, and the others stay as they were.
func TestByWords(t *testing.T) {
	d := newDice(2200)
	count := map[string]int{}
	for range 500 {
		all := []state{d.start(t)}
		were := []string{told(all[0].c)}
		for range 40 {
			s := all[len(all)-1-d.Intn(min(len(all), pick(d, 1, 1, 2, 9)))]
			x := d.call(s)
			c, e := x.cat(s.c)
			w, want := x.word(s.w)
			if e != want || (c == nil) != (want != isOK) {
				t.Fatalf("%s at\n%s: %v, %d, not %d", x.text, s.w.told(), c, e, want)
			}
			count[fmt.Sprint(strings.Fields(x.text)[0], " ", want)]++
			if e != isOK {
				continue
			}
			now := state{c, w, slices.Concat(s.docs, x.now)}
			if len(now.docs) > 6 {
				now.docs = now.docs[3:]
			}
			if got := told(c); got != w.told() {
				t.Fatalf("%s at\n%s:\n%s, not\n%s", x.text, s.w.told(), got, w.told())
			}
			if name, needs := d.name(), d.needs(); chosen(c.Choose(name, needs)) != w.choose(name, needs) {
				t.Fatalf("Choose(%s, %v) at\n%s: %s, not %s", name, needs, w.told(), chosen(c.Choose(name, needs)), w.choose(name, needs))
			}
			all, were = append(all, now), append(were, w.told())
		}
		for i, s := range all {
			if got := told(s.c); got != were[i] {
				t.Fatalf("%s\nhas become\n%s", were[i], got)
			}
		}
	}
	for _, must := range []string{
		"Create 0", "Create 2", "Create 8", "Create 221", "Create 210", "Create 18", "Create 5", "Drop 0", "Drop 222", "Drop 220", "Unindex 0", "Unindex 222", "Unindex 7",
		"Index 0", "Index 222", "Index 170", "Index 20", "Index 8", "Index 5", "Index 171", "Commit 0", "Commit 222", "Commit 212", "Commit 5", "Commit 171", "Moved 0",
	} {
		if count[must] < 15 {
			t.Errorf("%s: %d times: that says little", must, count[must])
		}
	}
}

// P22.2: a collection's schema is the value that was handed in, whatever the order of its members.
func TestSchemaAsHandedIn(t *testing.T) {
	for _, text := range []string{"{'maximum':1,'minimum':0}", "{'minimum':0,'maximum':1}"} {
		k, _ := only(t, 0, text).Coll("c")
		if !jsonval.Equal(k.Schema, val(text)) {
			t.Error(full(k.Schema), text)
		}
	}
}
