package cursor_test

import (
	"fmt"
	"slices"
	"testing"

	"docket/api"
	"docket/cursor"
)

// pages are all of a cursor, one behind the other, by what tells one.
func pages(t *testing.T, next func() ([]api.Doc, bool)) [][]api.Doc {
	t.Helper()
	var all [][]api.Doc
	for range 2000 {
		docs, done := next()
		all = append(all, docs)
		if done {
			return all
		}
	}
	t.Fatal("the pages do not end")
	return nil
}

// P19.6: all pages together tell every document that the filter takes once, and nothing else, however long they are; all items were looked at.
func TestEachOnce(t *testing.T) {
	d := newDice(196)
	told := 0
	for range 1500 {
		l, a := d.items(pick(d, 0, 1, 5, 20, 90)), d.asked()
		s, top := laid(t, l)
		var want []api.Doc
		for _, x := range walkOf(l) {
			if taking(t, a.query).Match(x.Value) {
				want = append(want, api.Doc{Id: x.Key, Version: x.Version, Value: letting(t, a.fields).Apply(x.Value)})
			}
		}
		for _, batch := range []int{a.batch, 1 + d.Intn(30)} {
			c := open(t, a.query, a.fields, batch)
			all := pages(t, func() ([]api.Doc, bool) {
				docs, done, e := c.Next(s, top)
				if e != isOK {
					t.Fatalf("Next: %d", e)
				}
				return docs, done
			})
			for i, docs := range all {
				if last := i == len(all)-1; last != (len(docs) < batch) || len(docs) > batch {
					t.Fatalf("of the batch %d: page %d of %d has %d", batch, i, len(all), len(docs))
				}
			}
			if got := slices.Concat(all...); text(got) != text(want) {
				t.Fatalf("of the batch %d: %v; want %v", batch, got, want)
			}
			wantState(t, "all pages", c, len(l), true)
			told += len(want)
		}
	}
	if told < 10000 {
		t.Errorf("%d told: that says little", told)
	}
}

// P19.7: of a tree and of its items the same, page by page; P19.8: of the tree's nodes no more than there are, each at most once.
func TestTreeAndItems(t *testing.T) {
	d := newDice(197)
	most := 0
	for range 1500 {
		l, a := d.items(pick(d, 0, 1, 5, 20, 90)), d.asked()
		s, top := laid(t, l)
		refs := refsOf(t, s, top)
		c, f := open(t, a.query, a.fields, a.batch), open(t, a.query, a.fields, a.batch)
		for range len(l) + 2 {
			docs, done, e := c.Next(s, top)
			list, over := f.From(l)
			if text(docs) != text(list) || done != over || e != isOK || state(c) != state(f) {
				t.Fatalf("%v, %v, %d, %s; %v, %v, %s", docs, done, e, state(c), list, over, state(f))
			}
			gets := s.forget()
			slices.SortFunc(gets, func(a, b api.Ref) int { return a.Num - b.Num })
			if n := len(gets); n > len(refs) || len(slices.Compact(gets)) != n {
				t.Fatalf("%v were got, of %v", gets, refs)
			}
			for _, r := range gets {
				if !slices.Contains(refs, r) {
					t.Fatalf("%v was got, of %v", r, refs)
				}
			}
			most = max(most, len(gets))
		}
		if !c.Done() || !f.Done() {
			t.Fatal("not done")
		}
	}
	if most < 50 {
		t.Errorf("at most %d were got: that says little", most)
	}
}

// P6, as far as it is of this layer: pages of one state tell it, whatever is written meanwhile.
func TestWrittenMeanwhile(t *testing.T) {
	d := newDice(198)
	for range 500 {
		l := d.items(40)
		s, top := laid(t, l)
		c, f, newest := open(t, "", "", 3), open(t, "", "", 3), top
		for !c.Done() {
			put := d.items(5)
			gone := slices.DeleteFunc(keysOf(d.items(5)), func(k string) bool { return slices.Contains(keysOf(put), k) })
			newest = change(t, s, newest, put, gone)
			docs, done, e := c.Next(s, top)
			list, over := f.From(l)
			if text(docs) != text(list) || done != over || e != isOK {
				t.Fatalf("%v, %v, %d; %v, %v", docs, done, e, list, over)
			}
		}
	}
}

// spoil writes over a list, its spare room too.
func spoil[T any](l []T, x T) {
	l = l[:cap(l)]
	for i := range l {
		l[i] = x
	}
}

// Rule 3: lists that are handed in are not changed, their spare room neither, and not kept; those that are answered are new.
func TestListsOfTheirOwn(t *testing.T) {
	other := item("other", 9)
	l := append(make([]api.Item, 0, 9), letters("abcde")...)
	was := fmt.Sprint(l[:9])
	c := open(t, "", "", 2)
	first, _ := c.From(l)
	want := text(first)
	ordered := cursor.Order(l)
	wantOrdered := fmt.Sprint(ordered)
	if fmt.Sprint(l[:9]) != was {
		t.Errorf("%v; it was %s", l[:9], was)
	}
	spoil(cursor.Order(l), other)
	if fmt.Sprint(l[:9]) != was || fmt.Sprint(ordered) != wantOrdered {
		t.Errorf("%v, %v", l[:9], ordered)
	}
	spoil(l, other)
	if text(first) != want || fmt.Sprint(ordered) != wantOrdered {
		t.Errorf("%v, %v", first, ordered)
	}
	spoil(first, api.Doc{Id: "other"})
	wantFrom(t, c, letters("abcde"), "db", false)
	second, _ := c.From(letters("abcde"))
	spoil(second, api.Doc{Id: "other"})
	wantState(t, "spoilt", c, 5, true)
}

// Rule 3: nodes are not written, and a page that was told is nobody else's.
func TestNodesStay(t *testing.T) {
	s, top := laid(t, letters("abcdeqrsu"))
	was := fmt.Sprint(s.nodes)
	c, f := open(t, "", "", 2), open(t, "", "", 2)
	for !c.Done() {
		docs, _, _ := c.Next(s, top)
		list, _ := f.From(letters("abcdeqrsu"))
		if text(docs) != text(list) {
			t.Errorf("%v; %v", docs, list)
		}
		spoil(docs, api.Doc{Id: "other"})
	}
	if fmt.Sprint(s.nodes) != was {
		t.Errorf("%v; it was %s", s.nodes, was)
	}
}

// Several cursors of one filter and of one tree have no part in one another.
func TestSeveral(t *testing.T) {
	s, top := laid(t, letters("abcde"))
	q, f := taking(t, `{"n":{"$gte":1}}`), letting(t, `{"n":1}`) // all but a
	var all []*cursor.Cursor
	for i := range maxCursors {
		c, e := cursor.New(q, f, i+1)
		if e != isOK {
			t.Fatal(e)
		}
		all = append(all, c)
	}
	wantNext(t, all[0], s, top, "e", false)
	wantNext(t, all[1], s, top, "ec", false)
	wantNext(t, all[2], s, top, "ecd", false)
	wantNext(t, all[3], s, top, "ecdb", false)
	wantNext(t, all[0], s, top, "c", false)
	wantNext(t, all[3], s, top, "", true)
	wantNext(t, all[2], s, top, "b", true)
	wantNext(t, all[1], s, top, "db", false)
	wantNext(t, all[0], s, top, "d", false)
}
