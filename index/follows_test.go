package index_test

import (
	"maps"
	"slices"
	"strconv"
	"strings"
	"sync"
	"testing"

	"docket/api"
	"docket/filter"
	"docket/index"
	"docket/jsonval"
)

// set is the items that an index has, by their Keys.
type set map[string]api.Item

// with is the set behind a change.
func (s set) with(was, now []api.Item) set {
	s = maps.Clone(s)
	for _, item := range was {
		delete(s, item.Key)
	}
	for _, item := range now {
		s[item.Key] = item
	}
	return s
}

func (s set) list() []api.Item {
	var l []api.Item
	for _, key := range slices.Sorted(maps.Keys(s)) {
		l = append(l, s[key])
	}
	return l
}

// walked is an index to which some changes led, and the items that it has.
func (d dice) walked(t *testing.T, s api.Spec, changes int) (*index.Index, set) {
	t.Helper()
	x, has := fresh(t, s), set{}
	for range changes {
		was, now := d.items(pick(d, 0, 1, 3)), d.items(pick(d, 1, 2, 6))
		if y, _, e := x.Change(was, now); e == api.OK {
			x, has = y, has.with(was, now)
		}
	}
	return x, has
}

// matching are the rising Keys of the items that the filter {Path: {operator: Value}} takes.
func matching(t *testing.T, has set, n api.Need) []string {
	t.Helper()
	operator := []string{"", "$eq", "$gt", "$gte", "$lt", "$lte", "$in"}[n.Op]
	f, e := filter.Parse(jsonval.Named([]string{n.Path}, jsonval.Named([]string{operator}, n.Value)))
	if e != api.OK {
		t.Fatal(e)
	}
	var keys []string
	for _, item := range has.list() {
		if f.Match(item.Value) {
			keys = append(keys, item.Key)
		}
	}
	return keys
}

// P17.8: an index tells what a filter tells.
func TestAsAFilterTells(t *testing.T) {
	d := newDice(174)
	told := [7]int{}
	for range 2500 {
		s := d.spec()
		x, has := d.walked(t, s, 1+d.Intn(6))
		there := []api.Value{{}, jsonval.Listed()}
		for v := range x.Each() {
			there = append(there, v)
		}
		for range 40 {
			one := pick(d, there...)
			n := api.Need{Path: s.Path, Op: 1 + d.Intn(6), Value: pick(d, one, one, d.small(), d.list(2), jsonval.Listed(d.small(), one))}
			if !x.Serves(n) {
				continue
			}
			got, want := x.Ids(n.Op, n.Value), matching(t, has, n)
			if !slices.Equal(got, want) {
				t.Fatalf("%s of %s: Ids(%d, %s): %q, not %q", s.Path, itemsText(has.list()), n.Op, full(n.Value), got, want)
			}
			if len(want) > 0 {
				told[n.Op]++
			}
		}
	}
	if slices.Min(told[1:]) < 1500 {
		t.Errorf("%v: that says little", told)
	}
}

// P17.8: the same of needs that a filter of several clauses tells, and of the index that is chosen for them.
func TestAsAChosenFilterTells(t *testing.T) {
	l := []string{`{"a":5,"b":[1,2]}`, `{"a":[5,6],"b":2}`, `{"a":null}`, `{"b":{"c":1}}`, `{"a":"5","b":[{"c":1},{"c":3}]}`, `{"a":7,"b":[]}`, `{}`, `{"a":5,"b":null}`}
	has := set{}
	for i, text := range l {
		has = has.with(nil, items(t, string(rune('a'+i))+" "+text))
	}
	indexes := []*index.Index{of(t, api.Spec{Name: "a", Path: "a"}, has.list()...), nil, of(t, api.Spec{Name: "b", Path: "b"}, has.list()...), of(t, api.Spec{Name: "c", Path: "b.c"}, has.list()...)}
	for _, c := range []struct {
		query       string
		index, need int
		ids         []string
	}{
		{`{"a":5}`, 0, 0, []string{"a", "b", "h"}},
		{`{"a":{"$gt":4},"b":2}`, 2, 1, []string{"a", "b"}},
		{`{"$and":[{"b.c":{"$gte":2}}],"b":{"$in":[[],null]}}`, 3, 0, []string{"e"}},
		{`{"b":{"$in":[1,[]]},"a":{"$lt":9}}`, 2, 0, []string{"a", "f"}},
		{`{"a":null,"b.c":1}`, 3, 1, []string{"d", "e"}},
		{`{"a":{"$lte":null}}`, 0, 0, []string{"c"}},
	} {
		f, e := filter.Parse(parsed(t, c.query))
		if e != api.OK {
			t.Fatal(c.query, e)
		}
		needs := f.Needs()
		i, k, there := index.Choose(indexes, needs)
		if i != c.index || k != c.need || !there {
			t.Errorf("%s: %d, %d, %v", c.query, i, k, there)
			continue
		}
		ids := indexes[i].Ids(needs[k].Op, needs[k].Value)
		if !slices.Equal(ids, c.ids) || !slices.Equal(ids, matching(t, has, needs[k])) {
			t.Errorf("%s: %q, not %q", c.query, ids, c.ids)
		}
		for _, item := range has.list() {
			if f.Match(item.Value) && !slices.Contains(ids, item.Key) {
				t.Errorf("%s matches %s, which is not told", c.query, item.Key)
			}
		}
	}
}

// P17.9: one index for one set, however it came to have it.
func TestOneIndexForOneSet(t *testing.T) {
	d := newDice(175)
	refused := 0
	for range 4000 {
		s := d.spec()
		x, has := d.walked(t, s, 1+d.Intn(8))
		at := of(t, s, has.list()...)
		l := has.list()
		d.Shuffle(len(l), func(i, k int) { l[i], l[k] = l[k], l[i] })
		one := fresh(t, s)
		for _, item := range l {
			one = changed(t, one, nil, []api.Item{item})
		}
		// One that had others, which have gone or were replaced.
		other, _ := d.walked(t, s, 3)
		var keys []api.Item
		for _, key := range slices.Compact(slices.Sorted(keysOf(other))) {
			keys = append(keys, api.Item{Key: key})
		}
		other = changed(t, other, keys, l)
		for _, y := range []*index.Index{at, one, other} {
			if told(y) != told(x) || y.Size() != x.Size() || y.Spec() != x.Spec() {
				t.Fatalf("%v: %s, not %s", s, told(y), told(x))
			}
		}
		if _, _, e := x.Change(nil, d.items(6)); e != api.OK {
			refused++
		}
	}
	if refused < 300 {
		t.Errorf("%d refused: that says little", refused)
	}
}

func keysOf(x *index.Index) func(func(string) bool) {
	return func(yield func(string) bool) {
		for _, key := range x.Each() {
			if !yield(key) {
				return
			}
		}
	}
}

// P17.9: nothing of an index changes when others are made from it, from one several.
func TestOldOnesStay(t *testing.T) {
	d := newDice(176)
	for range 500 {
		s := d.spec()
		all, were := []*index.Index{fresh(t, s)}, []string{""}
		for range 20 {
			x := pick(d, all...)
			y, _, e := x.Change(d.items(2), d.items(5))
			if e == api.OK {
				all, were = append(all, y), append(were, told(y)+" "+strconv.Itoa(y.Size()))
			}
		}
		for i, x := range all[1:] {
			if now := told(x) + " " + strconv.Itoa(x.Size()); now != were[i+1] {
				t.Fatalf("%s has become %s", were[i+1], now)
			}
			if x.Spec() != s {
				t.Fatal(x.Spec(), s)
			}
		}
		if all[0].Size() != 0 {
			t.Fatal(told(all[0]))
		}
	}
}

// P17.10, on indexes to which many changes led.
func TestNoTwoOfOneValue(t *testing.T) {
	d := newDice(177)
	entries := 0
	for range 3000 {
		s := d.spec()
		s.Unique = true
		x, has := d.walked(t, s, 12)
		var last api.Value
		first := true
		for v, key := range x.Each() {
			if !first && jsonval.Equal(v, last) {
				t.Fatalf("%s: %s stands there twice", told(x), full(v))
			}
			if _, there := has[key]; !there {
				t.Fatalf("%s: %q is not there", told(x), key)
			}
			last, first = v, false
			entries++
		}
	}
	if entries < 5000 {
		t.Errorf("%d entries: that says little", entries)
	}
}

// Rule 3: lists that are handed in are neither changed nor kept, their spare room neither.
func TestArgumentsStay(t *testing.T) {
	spare := items(t, `s {"t":1}`, `s {"t":2}`)
	roomy := func(texts ...string) []api.Item {
		l := items(t, texts...)
		return append(append(make([]api.Item, 0, len(l)+2), l...), spare...)[:len(l)]
	}
	for _, s := range []api.Spec{plain, unique} {
		was, now := roomy(`z 0`, `a 0`), roomy(`b {"t":[7,5,6]}`, `a {"t":[4,4]}`, `a {"t":3}`)
		before := itemsText(was[:cap(was)]) + itemsText(now[:cap(now)])
		x := changed(t, fresh(t, s), was, now)
		if after := itemsText(was[:cap(was)]) + itemsText(now[:cap(now)]); after != before {
			t.Errorf("%s has become %s", before, after)
		}
		want := "3 a, 5 b, 6 b, 7 b, [7,5,6] b"
		for i := range now {
			now[i] = spare[0]
		}
		if told(x) != want {
			t.Errorf("%s, not %s", told(x), want)
		}
		v := parsed(t, `[7,5,3]`)
		x.Ids(in, v)
		if full(v) != "[7,5,3]" || told(x) != want {
			t.Error(full(v), told(x))
		}
	}
	l := []*index.Index{nil, fresh(t, plain)}
	needs := []api.Need{{Path: "t", Op: gt}, {Path: "t", Op: in, Value: parsed(t, `[2,1]`)}}
	first := l[1]
	if i, k, there := index.Choose(l, needs); i != 1 || k != 1 || !there || l[0] != nil || l[1] != first || needs[0].Op != gt || full(needs[1].Value) != "[2,1]" {
		t.Error(i, k, there, l, needs)
	}
}

// Rule 3: Ids are a new list each time.
func TestIdsAreNew(t *testing.T) {
	x := of(t, plain, items(t, `a {"t":5}`, `b {"t":5}`, `c {"t":[5,6]}`)...)
	for _, op := range []int{eq, gte, in} {
		v := parsed(t, `5`)
		if op == in {
			v = parsed(t, `[5]`)
		}
		first, second := x.Ids(op, v), x.Ids(op, v)
		first = first[:cap(first)]
		for i := range first {
			first[i] = "other"
		}
		if !slices.Equal(second, []string{"a", "b", "c"}) || !slices.Equal(x.Ids(op, v), second) || told(x) != "5 a, 5 b, 5 c, 6 c, [5,6] c" {
			t.Errorf("%d: %q, %q, %s", op, second, x.Ids(op, v), told(x))
		}
	}
}

// Rule 1: of items whose values are none nothing is promised, but that every call ends and none panics.
func TestItemsThatAreNone(t *testing.T) {
	for _, s := range []api.Spec{plain, unique} {
		for _, v := range noValues() {
			for _, w := range noValues() {
				held := func(v ...api.Value) api.Value { return jsonval.Named([]string{"t"}, jsonval.Listed(v...)) }
				now := []api.Item{{Key: "a", Value: held(v, w)}, {Key: "b", Value: w}, {Key: "a", Value: held(w)}, {Key: "c", Value: held(v)}}
				x := fresh(t, s)
				for i := range now {
					if y, _, e := x.Change(now[:i], now[i:]); e == api.OK {
						x = y
					}
				}
				for range x.Each() {
				}
				for op := range 8 {
					x.Ids(op, jsonval.Of(5))
				}
			}
		}
	}
}

// An index is read by many while others are made from it.
func TestBesideOneAnother(t *testing.T) {
	l := items(t, `a {"t":5}`, `b {"t":[5,7]}`, `c {"t":"x"}`)
	x := of(t, plain, l...)
	was := told(x)
	faults := make([]string, 8)
	var wait sync.WaitGroup
	for i := range faults {
		wait.Go(func() {
			for n := range 300 {
				y, _, e := x.Change(l[n%3:n%3+1], []api.Item{{Key: strconv.Itoa(n), Value: l[(n+1)%3].Value}})
				if e != api.OK || y.Size() == 0 || told(x) != was || strings.Join(x.Ids(eq, jsonval.Of(5)), " ") != "a b" {
					faults[i] = told(x)
				}
			}
		})
	}
	wait.Wait()
	for _, fault := range faults {
		if fault != "" {
			t.Error(fault)
		}
	}
}

// The chapter's examples.
func TestExamples(t *testing.T) {
	l := items(t, `a {"t":5}`, `b {"t":[5,7]}`, `c {}`)
	x := of(t, plain, l...)
	if told(x) != "5 a, 5 b, 7 b, [5,7] b" || x.Size() != 4 {
		t.Error(told(x), x.Size())
	}
	for _, c := range []struct {
		op      int
		v, want string
	}{{eq, `5`, "a b"}, {gt, `5`, "b"}, {eq, `[5,7]`, "b"}, {gte, `"x"`, ""}, {gte, `null`, ""}} {
		if got := strings.Join(x.Ids(c.op, parsed(t, c.v)), " "); got != c.want {
			t.Errorf("Ids(%d, %s): %s", c.op, c.v, got)
		}
	}
	if x.Serves(api.Need{Path: "t", Op: eq}) || !x.Serves(api.Need{Path: "t", Op: gte}) {
		t.Error("Serves")
	}
	y := fresh(t, unique)
	refused(t, y, nil, l[:2], "a")
	y = changed(t, y, nil, l[:1])
	y = changed(t, y, l[:1], items(t, `a {"t":6}`))
	y = changed(t, y, nil, l[1:2])
	if told(y) != "5 b, 6 a, 7 b, [5,7] b" {
		t.Error(told(y))
	}
}
