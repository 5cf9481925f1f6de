package cursor_test

import (
	"fmt"
	"slices"
	"testing"

	"docket/api"
	"docket/cursor"
	"docket/filter"
	"docket/shape"
	"docket/trie"
)

// The chapter's words, written plainly: what the package answers is held against what they say.

// ahead is the order of the walk.
func ahead(a, b string) bool {
	for level := range levels {
		if x, y := digitOf(a, level), digitOf(b, level); x != y {
			return x < y
		}
	}
	return a < b
}

// walkOf is P19.5: each item behind the last one that is not behind it.
func walkOf(l []api.Item) []api.Item {
	var all []api.Item
	for _, x := range l {
		at := len(all)
		for at > 0 && ahead(x.Key, all[at-1].Key) {
			at--
		}
		all = slices.Insert(all, at, x)
	}
	return all
}

// plain is a cursor.
type plain struct {
	query  *filter.Filter
	fields *shape.Fields
	batch  int
	seen   []string // the Keys of the items that were looked at
	told   []api.Doc
	done   bool
}

func (p *plain) state() string { return fmt.Sprint(len(p.seen), p.done) }

// ends is thrown where a page does, be it full or lost.
type ends struct{ why api.Errno }

// look is of one item. Behind the one that was looked at last there are only those that it is ahead of.
func (p *plain) look(x api.Item) {
	if n := len(p.seen); n > 0 && !ahead(p.seen[n-1], x.Key) {
		return
	}
	p.seen = append(p.seen, x.Key)
	if p.query.Match(x.Value) {
		p.told = append(p.told, api.Doc{Id: x.Key, Version: x.Version, Value: p.fields.Apply(x.Value)})
	}
	if len(p.told) == p.batch {
		panic(ends{isOK})
	}
}

// tree is P19.2: way are the Keys on whose way this is, one or none.
func (p *plain) tree(s trie.Space, r api.Ref, level int, way []string) {
	if r == zero {
		return
	}
	n, there := s.Get(r)
	if !there || level == levels && !n.Leaf {
		panic(ends{isLost})
	}
	if n.Leaf {
		for _, x := range walkOf(n.Items) {
			p.look(x)
		}
		return
	}
	for digit, kid := range n.Kids {
		switch {
		case len(way) == 0 || digit > digitOf(way[0], level):
			p.tree(s, kid, level+1, nil)
		case digit == digitOf(way[0], level):
			p.tree(s, kid, level+1, way)
		}
	}
}

// page is what a Next or a From tells, by what it looks at.
func (p *plain) page(looks func(p *plain)) (told []api.Doc, done bool, e api.Errno) {
	if p.done {
		return nil, true, isOK
	}
	next := *p
	next.seen = slices.Clone(p.seen)
	next.told = nil
	defer func() {
		end, is := recover().(ends)
		if is && end.why != isOK {
			told, done, e = nil, false, end.why
			return
		}
		next.done = !is
		*p = next
		told, done, e = next.told, next.done, isOK
	}()
	looks(&next)
	return
}

func (p *plain) next(s trie.Space, top api.Ref) ([]api.Doc, bool, api.Errno) {
	way := p.seen[max(0, len(p.seen)-1):]
	return p.page(func(p *plain) { p.tree(s, top, 0, way) })
}

func (p *plain) from(l []api.Item) ([]api.Doc, bool) {
	told, done, _ := p.page(func(p *plain) {
		for _, x := range walkOf(l) {
			p.look(x)
		}
	})
	return told, done
}

// twins are a cursor and its plain one, each with a space of its own.
type twins struct {
	built       *cursor.Cursor
	plain       *plain
	space, copy *tape
}

func newTwins(t *testing.T, a asked, s *tape) twins {
	t.Helper()
	return twins{
		built: open(t, a.query, a.fields, a.batch),
		plain: &plain{query: taking(t, a.query), fields: letting(t, a.fields), batch: a.batch},
		space: s, copy: s.copy(),
	}
}

// next has both take a page, and tells how it ended.
func (w twins) next(t *testing.T, top api.Ref) (bool, api.Errno) {
	t.Helper()
	docs, done, e := w.built.Next(w.space, top)
	want, wantDone, why := w.plain.next(w.copy, top)
	if text(docs) != text(want) || done != wantDone || e != why || state(w.built) != w.plain.state() {
		t.Fatalf("Next: %v, %v, %d, %s; want %v, %v, %d, %s", docs, done, e, state(w.built), want, wantDone, why, w.plain.state())
	}
	if gets, want := w.space.forget(), w.copy.forget(); !slices.Equal(gets, want) {
		t.Fatalf("Next: %v were got; want %v", gets, want)
	}
	return done, e
}

func (w twins) from(t *testing.T, l []api.Item) bool {
	t.Helper()
	docs, done := w.built.From(l)
	want, wantDone := w.plain.from(l)
	if text(docs) != text(want) || done != wantDone || state(w.built) != w.plain.state() {
		t.Fatalf("From: %v, %v, %s; want %v, %v, %s", docs, done, state(w.built), want, wantDone, w.plain.state())
	}
	return done
}

// lose takes a node away from both, and gives back how to lay it there again.
func (w twins) lose(r api.Ref) func() {
	n, there := w.space.nodes[r]
	delete(w.space.nodes, r)
	delete(w.copy.nodes, r)
	return func() {
		if there {
			w.space.nodes[r], w.copy.nodes[r] = n, n
		}
	}
}

// P19.2 to P19.4: pages of right trees, some of which lose a node for a while, or become another tree; now and then a page of items.
func TestWords(t *testing.T) {
	d := newDice(191)
	lost, pages, changed := 0, 0, 0
	for range 4000 {
		l := d.items(pick(d, 0, 3, 6, 20, 90))
		s, top := laid(t, l)
		w := newTwins(t, d.asked(), s)
		for range 200 {
			again := func() {}
			switch d.Intn(8) {
			case 0:
				again = w.lose(pick(d, append(refsOf(t, s, top), zero)...))
			case 1:
				put, gone := d.items(4), keysOf(d.items(9))
				gone = slices.DeleteFunc(gone, func(k string) bool { return slices.Contains(keysOf(put), k) })
				top = change(t, s, top, put, gone)
				l, _ = trie.All(s, top)
				s.forget()
				w.copy = s.copy()
				changed++
			case 2:
				w.from(t, l)
			}
			_, e := w.next(t, top)
			again()
			pages++
			if e != isOK {
				lost++
			}
			if w.plain.done && d.Intn(3) == 0 {
				break
			}
		}
	}
	if lost < 500 || pages < 20000 || changed < 2000 {
		t.Errorf("%d pages, %d lost, %d changed: that says little", pages, lost, changed)
	}
}

// P19.3: pages of items alone, in any order, each time in another.
func TestWordsOfItems(t *testing.T) {
	d := newDice(192)
	for range 3000 {
		l := d.items(pick(d, 0, 1, 6, 20, 90))
		w := newTwins(t, d.asked(), newTape())
		for range len(l) + 2 {
			d.Shuffle(len(l), func(i, k int) { l[i], l[k] = l[k], l[i] })
			if w.from(t, l) && d.Intn(3) == 0 {
				break
			}
		}
		if !w.plain.done {
			t.Fatalf("%d pages are not enough for %d items", len(l)+2, len(l))
		}
	}
}

// P19.5.
func TestWordsOfOrder(t *testing.T) {
	d := newDice(193)
	for range 3000 {
		l := slices.Concat(d.items(d.Intn(60)), d.items(d.Intn(60)), d.items(d.Intn(5)))
		d.Shuffle(len(l), func(i, k int) { l[i], l[k] = l[k], l[i] })
		if got, want := cursor.Order(l), walkOf(l); fmt.Sprint(got) != fmt.Sprint(want) {
			t.Fatalf("Order of %v: %v; want %v", l, got, want)
		}
	}
}

// anything is a space of any nodes: leaves of any items, branches mostly with kids of a greater number, some of which are in several places, or nowhere.
func (d dice) anything() *tape {
	s := newTape()
	s.made = 2 + d.Intn(14)
	for num := 1; num <= s.made; num++ {
		n := api.Node{Leaf: num == s.made || num > 1 && d.Intn(2) == 0, Count: d.Intn(9) - 2}
		for range d.Intn(7) {
			n.Items = append(n.Items, item(d.key(), d.Intn(10)))
		}
		for range 1 + d.Intn(4) {
			n.Kids[d.Intn(16)] = ref(min(num+1+d.Intn(4), s.made+d.Intn(8)/7), 1)
		}
		if d.Intn(60) == 0 {
			n.Kids[d.Intn(16)] = ref(num, 1)
		}
		if d.Intn(60) > 0 {
			s.nodes[ref(num, 1)] = n
		}
	}
	if s.places(ref(1, 1), 0, 500) >= 500 {
		return d.anything()
	}
	return s
}

// places are how many there are below a Ref; at most as many as are asked for.
func (s *tape) places(r api.Ref, level, most int) int {
	n, there := s.nodes[r]
	if !there || n.Leaf || level == levels {
		return 1
	}
	all := 1
	for _, kid := range n.Kids {
		if kid != zero && all < most {
			all += s.places(kid, level+1, most-all)
		}
	}
	return all
}

// P19.2, at trees that are not right: the nodes are got as it says, no item is looked at that is not behind the last, and no call panics.
func TestWordsOfOthers(t *testing.T) {
	d := newDice(194)
	seen := map[api.Errno]int{}
	for range 6000 {
		w := newTwins(t, d.asked(), d.anything())
		was := fmt.Sprint(w.space.nodes)
		for range 8 {
			_, e := w.next(t, ref(1, 1))
			seen[e]++
		}
		if fmt.Sprint(w.space.nodes) != was {
			t.Fatalf("%v; it was %s", w.space.nodes, was)
		}
	}
	if seen[isOK] < 10000 || seen[isLost] < 2000 {
		t.Errorf("%v: that says little", seen)
	}
}
