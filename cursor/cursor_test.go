package cursor_test

import (
	"math"
	"slices"
	"strings"
	"testing"

	"docket/api"
	"docket/cursor"
)

// The digits of one letter at the level 0: e and u 0, c and s 2, d 3, b and r 5, x 7, a and q c.

// P19.1.
func TestNew(t *testing.T) {
	for _, batch := range []int{0, -1, maxBatch + 1, 1000, math.MinInt, math.MaxInt} {
		if c, e := cursor.New(nil, nil, batch); c != nil || e != isBatch {
			t.Errorf("New(%d): %v, %d", batch, c, e)
		}
		if c, e := cursor.New(taking(t, `{"n":1}`), letting(t, `{"n":1}`), batch); c != nil || e != isBatch {
			t.Errorf("New(%d): %v, %d", batch, c, e)
		}
	}
	for batch := 1; batch <= maxBatch; batch++ {
		wantState(t, "a new one", open(t, "", "", batch), 0, false)
		wantState(t, "a new one", open(t, `{"n":1}`, `{"n":0}`, batch), 0, false)
	}
}

// P19.1, P19.2: a page has as many documents as the batch says, also of the greatest.
func TestBatches(t *testing.T) {
	var l []api.Item
	for i := range 600 {
		l = append(l, item("k"+strings.Repeat("i", i), i))
	}
	s, top := laid(t, l)
	for _, batch := range []int{1, 2, 7, 255, maxBatch} {
		c, d := open(t, "", "", batch), open(t, "", "", batch)
		for left := len(l); ; left -= batch {
			docs, done, e := c.Next(s, top)
			list, over := d.From(l)
			if want := min(batch, left); len(docs) != want || len(list) != want || done != (want < batch) || over != done || e != isOK {
				t.Fatalf("of the batch %d, %d left: %d, %v, %d; %d, %v", batch, left, len(docs), done, e, len(list), over)
			}
			if done {
				break
			}
		}
	}
}

// The chapter's examples.
func TestExamples(t *testing.T) {
	l := letters("abc")
	s, top := laid(t, l)
	if got := strings.Join(keysOf(cursor.Order(l)), ""); got != "cba" {
		t.Error(got)
	}
	c, d := open(t, "", "", 2), open(t, "", "", 2)
	wantNext(t, c, s, top, "cb", false)
	wantNext(t, c, s, top, "a", true)
	wantFrom(t, d, l, "cb", false)
	wantFrom(t, d, l, "a", true)
	c, d = open(t, "", "", 3), open(t, "", "", 3)
	wantNext(t, c, s, top, "cba", false)
	wantNext(t, c, s, top, "", true)
	wantFrom(t, d, l, "cba", false)
	wantFrom(t, d, l, "", true)
	wantNext(t, open(t, "", "", 1), s, zero, "", true)
	if c, e := cursor.New(nil, nil, 0); c != nil || e != isBatch {
		t.Error(c, e)
	}
}

// P19.2: of the zero Ref nothing is got; it is done, whatever comes later.
func TestOfNothing(t *testing.T) {
	s, top := laid(t, letters("abcde"))
	c := open(t, "", "", 3)
	wantNext(t, c, s, zero, "", true)
	wantState(t, "of nothing", c, 0, true)
	wantNext(t, c, s, top, "", true)
	wantFrom(t, c, letters("abcde"), "", true)
	wantState(t, "of nothing", c, 0, true)
	wantGets(t, "of nothing", s)
	c = open(t, "", "", 2)
	wantNext(t, c, s, top, "ec", false)
	wantNext(t, c, s, zero, "", true)
	wantState(t, "of nothing any more", c, 2, true)
	c = open(t, "", "", 2)
	wantFrom(t, c, nil, "", true)
	wantState(t, "of no items", c, 0, true)
}

// P19.2: one that is done gets nothing, be the tree lost.
func TestDone(t *testing.T) {
	s, top := laid(t, letters("abcde"))
	c := open(t, "", "", 9)
	wantNext(t, c, s, top, "ecdba", true)
	s.forget()
	for _, top := range []api.Ref{top, zero, ref(99, 1), ref(0, 1)} {
		wantNext(t, c, s, top, "", true)
		wantFrom(t, c, letters("qrs"), "", true)
		wantState(t, "done", c, 5, true)
	}
	wantNext(t, c, nil, top, "", true)
	wantGets(t, "done", s)
}

// P19.2: Id the Key, Version, and Value what the fields let through, of what the filter takes.
func TestTold(t *testing.T) {
	l := letters("abcde") // their n: 0 to 4; in the order of the walk: e, c, d, b, a
	s, top := laid(t, l)
	for _, x := range []struct {
		query, fields string
		want          []api.Doc
	}{
		{"", "", []api.Doc{
			{Id: "e", Version: 104, Value: parsed(t, `{"n":4,"m":1}`)}, {Id: "c", Version: 102, Value: parsed(t, `{"n":2,"m":2}`)},
			{Id: "d", Version: 103, Value: parsed(t, `{"n":3,"m":0}`)}, {Id: "b", Version: 101, Value: parsed(t, `{"n":1,"m":1}`)},
			{Id: "a", Version: 100, Value: parsed(t, `{"n":0,"m":0}`)},
		}},
		{`{"m":1}`, "", []api.Doc{
			{Id: "e", Version: 104, Value: parsed(t, `{"n":4,"m":1}`)}, {Id: "b", Version: 101, Value: parsed(t, `{"n":1,"m":1}`)},
		}},
		{`{"m":0}`, `{"n":1}`, []api.Doc{
			{Id: "d", Version: 103, Value: parsed(t, `{"n":3}`)}, {Id: "a", Version: 100, Value: parsed(t, `{"n":0}`)},
		}},
		{`{"n":2}`, `{"n":0}`, []api.Doc{{Id: "c", Version: 102, Value: parsed(t, `{"m":2}`)}}}, // taken by what is not told
		{`{"n":7}`, "", nil},
	} {
		docs, done, e := open(t, x.query, x.fields, 9).Next(s, top)
		list, over := open(t, x.query, x.fields, 9).From(l)
		if text(docs) != text(x.want) || text(list) != text(x.want) || !done || !over || e != isOK {
			t.Errorf("%s %s: %v, %v; %v, %v; want %v", x.query, x.fields, docs, done, list, over, x.want)
		}
	}
}

// P19.2, P19.4: what the filter does not take is looked at, and does not fill the page; behind a full page nothing is.
func TestLooked(t *testing.T) {
	l := letters("abcde") // their m, in the order of the walk: 1, 2, 0, 1, 0
	s, top := laid(t, l)
	for _, x := range []struct {
		query string
		batch int
		pages []string
		looks []int
	}{
		{"", 1, []string{"e", "c", "d", "b", "a", ""}, []int{1, 2, 3, 4, 5, 5}},
		{"", 2, []string{"ec", "db", "a"}, []int{2, 4, 5}},
		{"", 3, []string{"ecd", "ba"}, []int{3, 5}},
		{"", 5, []string{"ecdba", ""}, []int{5, 5}},
		{"", 6, []string{"ecdba"}, []int{5}},
		{`{"m":0}`, 1, []string{"d", "a", ""}, []int{3, 5, 5}},
		{`{"m":0}`, 2, []string{"da", ""}, []int{5, 5}},
		{`{"m":1}`, 1, []string{"e", "b", ""}, []int{1, 4, 5}},
		{`{"m":1}`, 2, []string{"eb", ""}, []int{4, 5}}, // full ahead of a, which only the next one looks at
		{`{"m":1}`, 3, []string{"eb"}, []int{5}},
		{`{"m":2}`, 1, []string{"c", ""}, []int{2, 5}},
		{`{"m":9}`, 1, []string{""}, []int{5}},
	} {
		c, d := open(t, x.query, "", x.batch), open(t, x.query, "", x.batch)
		for i, want := range x.pages {
			done := i == len(x.pages)-1
			wantNext(t, c, s, top, want, done)
			wantFrom(t, d, l, want, done)
			wantState(t, x.query, c, x.looks[i], done)
			wantState(t, x.query, d, x.looks[i], done)
		}
	}
}

// P19.2: which nodes are got. The leaves of e, c, d, b, a are 1 to 5, and the branch is 6.
func TestGets(t *testing.T) {
	s, top := laid(t, letters("abcde"))
	page := func(c *cursor.Cursor, want string, done bool, gets ...int) {
		t.Helper()
		wantNext(t, c, s, top, want, done)
		wantGets(t, want, s, nums(gets...)...)
	}
	page(open(t, "", "", 9), "ecdba", true, 6, 1, 2, 3, 4, 5)
	page(open(t, "", "", 5), "ecdba", false, 6, 1, 2, 3, 4, 5)
	c := open(t, "", "", 2)
	page(c, "ec", false, 6, 1, 2)
	page(c, "db", false, 6, 2, 3, 4) // the leaf in which the last one lies is got again
	page(c, "a", true, 6, 4, 5)
	page(c, "", true)
	c = open(t, "", "", 1)
	page(c, "e", false, 6, 1)
	page(c, "c", false, 6, 1, 2)
	page(c, "d", false, 6, 2, 3)
	page(c, "b", false, 6, 3, 4)
	page(c, "a", false, 6, 4, 5)
	page(c, "", true, 6, 5)
	c = open(t, `{"m":1}`, "", 1) // e and b
	page(c, "e", false, 6, 1)
	page(c, "b", false, 6, 1, 2, 3, 4)
	page(c, "", true, 6, 4, 5)

	s, top = laid(t, letters("abc")) // one leaf
	c = open(t, "", "", 2)
	page(c, "cb", false, 1)
	page(c, "a", true, 1)
}

// P19.2: a page that is full in the midst of a leaf goes on there.
func TestMidstOfLeaf(t *testing.T) {
	// By their second digits q is behind a, and r behind b.
	s, top := laid(t, letters("abcdeqr"))
	leafOfA, leafOfB := s.nodes[top].Kids[12], s.nodes[top].Kids[5]
	if x, y := digitOf("a", 1), digitOf("q", 1); x >= y {
		t.Fatal(x, y)
	}
	var all []string
	for _, x := range walkOf(letters("abcdeqr")) {
		all = append(all, x.Key)
	}
	want := strings.Join(all, "")
	if !strings.HasSuffix(want, "aq") {
		t.Fatal(want)
	}
	c := open(t, "", "", 6)
	wantNext(t, c, s, top, want[:6], false)
	if gets := s.forget(); !slices.Contains(gets, leafOfB) || gets[len(gets)-1] != leafOfA {
		t.Error(gets)
	}
	wantNext(t, c, s, top, "q", true)
	wantGets(t, "the rest", s, top, leafOfA)
}

// P19.2: the way to the one that was looked at last is gone down level by level: ahead of it nothing is got, and what is beside it whole.
func TestWay(t *testing.T) {
	// Items that part at each level: five of the digits 0, and at each level one that leaves them there.
	keys := deeps(-1, 5)
	for level := range levels {
		keys = append(keys, deep(level, 0))
	}
	s, top := laid(t, items(keys...))
	// Nodes by levels: the branch, and the leaf of the one that leaves it.
	var way, aside []api.Ref
	r := top
	for range levels {
		way, aside = append(way, r), append(aside, s.nodes[r].Kids[1])
		r = s.nodes[r].Kids[0]
	}
	bottom := r
	c := open(t, "", "", 1)
	page := func(want string, gets ...api.Ref) {
		t.Helper()
		wantNext(t, c, s, top, want, false)
		wantGets(t, want, s, gets...)
	}
	down := append(slices.Clone(way), bottom)
	for _, k := range deeps(-1, 5) {
		page(k, down...)
	}
	page(deep(levels-1, 0), append(slices.Clone(down), aside[levels-1])...)
	for level := levels - 2; level >= 0; level-- {
		gets := append(slices.Clone(way[:level+2]), aside[level+1], aside[level])
		page(deep(level, 0), gets...)
	}
	wantNext(t, c, s, top, "", true)
	wantGets(t, "the last", s, top, aside[0])
	wantState(t, "the last", c, len(keys), true)
}

// P19.2: at the level 16 are leaves of any number of items, which are told by their Keys, over several pages.
func TestDeepestLeaf(t *testing.T) {
	keys := deeps(-1, 9)
	s, top := laid(t, items(keys...))
	for batch := 1; batch <= 10; batch++ {
		c := open(t, "", "", batch)
		for from := 0; ; from += batch {
			wantNext(t, c, s, top, strings.Join(keys[min(from, 9):min(from+batch, 9)], ""), from+batch > 9)
			if gets := s.forget(); len(gets) != levels+1 {
				t.Errorf("%v were got", gets)
			}
			if from+batch > 9 {
				break
			}
		}
	}
}

// P19.2: each page may be of another tree: it goes on behind the last item, though that has gone.
func TestOtherTrees(t *testing.T) {
	s, top := laid(t, letters("abcde")) // e c d b a
	c := open(t, "", "", 2)
	wantNext(t, c, s, top, "ec", false)
	without := change(t, s, top, nil, []string{"c"})
	wantNext(t, c, s, without, "db", false) // one leaf of four

	c = open(t, "", "", 2)
	wantNext(t, c, s, top, "ec", false)
	more := change(t, s, top, letters("usx"), []string{"c", "d"}) // e u s b x a: s has c's first digit, and is ahead of it by the second
	wantNext(t, c, s, more, "bx", false)
	wantNext(t, c, s, more, "a", true)

	c = open(t, "", "", 4)
	wantNext(t, c, s, top, "ecdb", false)
	early := lay(t, s, letters("ecdsu")) // all of them ahead of b
	s.forget()
	wantNext(t, c, s, early, "", true)
	wantGets(t, "all ahead", s, early) // at the digit of b and behind it there is nothing
}

// P19.3, P19.7: Next and From may take turns.
func TestTurns(t *testing.T) {
	l := letters("abcde")
	s, top := laid(t, l)
	c := open(t, "", "", 1)
	wantNext(t, c, s, top, "e", false)
	wantFrom(t, c, l, "c", false)
	wantNext(t, c, s, top, "d", false)
	wantFrom(t, c, letters("edcba"), "b", false)
	wantFrom(t, c, letters("bdaec"), "a", false)
	wantNext(t, c, s, top, "", true)
	wantFrom(t, c, l, "", true)
	wantState(t, "turns", c, 5, true)
}

// P19.3: in any order, in each call another; others than those ahead.
func TestFrom(t *testing.T) {
	for _, text := range []string{"abcde", "edcba", "ecdba", "abdce", "cabed"} {
		c := open(t, "", "", 2)
		wantFrom(t, c, letters(text), "ec", false)
		wantFrom(t, c, letters("bcade"), "db", false)
		wantFrom(t, c, letters(text), "a", true)
		wantFrom(t, c, letters(text), "", true)
	}
	c := open(t, "", "", 2)
	wantFrom(t, c, letters("abcde"), "ec", false)
	wantFrom(t, c, letters("aex"), "xa", false) // x has come, b, c and d have gone
	wantFrom(t, c, letters("ecdb"), "", true)
	wantState(t, "others", c, 4, true)
}

// P19.4.
func TestNil(t *testing.T) {
	var c *cursor.Cursor
	s, top := laid(t, letters("abc"))
	for _, top := range []api.Ref{top, zero, ref(99, 1)} {
		if docs, done, e := c.Next(s, top); docs != nil || !done || e != isOK {
			t.Errorf("Next: %v, %v, %d", docs, done, e)
		}
	}
	if docs, done, e := c.Next(nil, top); docs != nil || !done || e != isOK {
		t.Errorf("Next: %v, %v, %d", docs, done, e)
	}
	for _, l := range [][]api.Item{nil, letters("abc")} {
		if docs, done := c.From(l); docs != nil || !done {
			t.Errorf("From: %v, %v", docs, done)
		}
	}
	wantState(t, "nil", c, 0, true)
	wantGets(t, "nil", s)
}

// P19.5.
func TestOrder(t *testing.T) {
	for _, x := range []struct{ from, want string }{
		{"abc", "cba"}, {"cba", "cba"}, {"bac", "cba"}, {"a", "a"}, {"abcde", "ecdba"}, {"xedcba", "ecdbxa"},
	} {
		if got := strings.Join(keysOf(cursor.Order(letters(x.from))), ""); got != x.want {
			t.Errorf("Order of %s: %s; want %s", x.from, got, x.want)
		}
	}
	if got := cursor.Order(nil); len(got) != 0 {
		t.Error(got)
	}
	if got := cursor.Order([]api.Item{}); len(got) != 0 {
		t.Error(got)
	}
}

// P19.5: by the first level at which digits are unlike, from 0 on; by the Keys, byte by byte, where none is.
func TestOrderByLevels(t *testing.T) {
	want := deeps(-1, 3)
	for level := levels - 1; level >= 0; level-- {
		want = append(want, deeps(level, 3)...)
	}
	d := newDice(195)
	for range 50 {
		keys := slices.Clone(want)
		d.Shuffle(len(keys), func(i, k int) { keys[i], keys[k] = keys[k], keys[i] })
		if got := keysOf(cursor.Order(items(keys...))); !slices.Equal(got, want) {
			t.Fatalf("%q; want %q", got, want)
		}
	}
}

// P19.5: alike Keys are as they stood, and each item is as it was.
func TestOrderOfAlike(t *testing.T) {
	var l, as, bs []api.Item
	for i := range 100 {
		as, bs = append(as, item("a", i)), append(bs, item("b", i))
		l = append(l, as[i], bs[i])
	}
	if got, want := cursor.Order(l), slices.Concat(bs, as); !slices.EqualFunc(got, want, func(a, b api.Item) bool {
		return a.Key == b.Key && a.Version == b.Version && a.Value.Items[0].Int == b.Value.Items[0].Int
	}) {
		t.Errorf("%v", got)
	}
}

// Keys of any bytes.
func TestOddKeys(t *testing.T) {
	l := items("", "\x00", "\xff\xfe", "a\x00", "a", strings.Repeat("long", 1000), "é", "c/x/y")
	s, top := laid(t, l)
	c, d := open(t, "", "", 3), open(t, "", "", 3)
	var told []string
	for i := range 3 {
		docs, done, e := c.Next(s, top)
		list, over := d.From(l)
		if e != isOK || done != (i == 2) || over != done || text(docs) != text(list) {
			t.Errorf("%v, %v, %d; %v, %v", docs, done, e, list, over)
		}
		for _, x := range docs {
			told = append(told, x.Id)
		}
	}
	if want := keysOf(walkOf(l)); !slices.Equal(told, want) {
		t.Errorf("%q; want %q", told, want)
	}
}
