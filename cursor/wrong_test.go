package cursor_test

import (
	"fmt"
	"slices"
	"testing"

	"docket/api"
	"docket/cursor"
	"docket/trie"
)

// P19.2: where Get answers false.
func TestLostTop(t *testing.T) {
	s, top := laid(t, letters("abcde"))
	for _, lost := range []api.Ref{ref(99, 1), ref(0, 1), ref(1, 0), ref(6, 2), ref(-1, 1), ref(1<<62, -1<<62)} {
		c := open(t, "", "", 2)
		wantLost(t, "at the beginning", c, s, lost)
		wantGets(t, "at the beginning", s, lost)
		wantNext(t, c, s, top, "ec", false)
		wantLost(t, "in the midst", c, s, lost)
		wantLost(t, "in the midst, again", c, s, lost)
		wantNext(t, c, s, top, "db", false)
		wantNext(t, c, s, top, "a", true)
		s.forget()
	}
}

// P19.2: a kid that is lost is lost to the pages that come to it, and to no other; nothing of such a page is told, and the cursor is as it was.
func TestLostKid(t *testing.T) {
	s, top := laid(t, letters("abcde"))
	n := s.nodes[ref(3, 1)] // the leaf of d; it is behind e and c, ahead of b and a
	delete(s.nodes, ref(3, 1))
	c := open(t, "", "", 2)
	wantNext(t, c, s, top, "ec", false)
	s.forget()
	wantLost(t, "d", c, s, top)
	wantGets(t, "up to d", s, nums(6, 2, 3)...)
	wantState(t, "lost", c, 2, false)
	wantLost(t, "one page of all", open(t, "", "", 9), s, top)
	wantGets(t, "up to d", s, nums(6, 1, 2, 3)...)
	wantLost(t, "of those that are taken", open(t, `{"m":0}`, "", 1), s, top)
	s.nodes[ref(3, 1)] = n
	wantNext(t, c, s, top, "db", false)
	delete(s.nodes, ref(3, 1)) // it has been gone by
	wantNext(t, c, s, top, "a", true)
	wantState(t, "the end", c, 5, true)
}

// P19.2: the leaf of the item that was looked at last is got again, and may be lost.
func TestLostWay(t *testing.T) {
	s, top := laid(t, letters("abcde"))
	c := open(t, "", "", 2)
	wantNext(t, c, s, top, "ec", false)
	delete(s.nodes, ref(2, 1))
	wantLost(t, "the leaf of c", c, s, top)
	wantFrom(t, c, letters("abcde"), "db", false)
	wantNext(t, c, s, top, "a", true)
}

// Each node is lost in turn, at each page: behind it all goes on as if nothing had been.
func TestLostForAWhile(t *testing.T) {
	d := newDice(199)
	lost := 0
	for range 60 {
		l := d.items(40)
		s, top := laid(t, l)
		refs := refsOf(t, s, top)
		for _, batch := range []int{1, 3, 10} {
			c, f := open(t, "", "", batch), open(t, "", "", batch)
			for !c.Done() {
				list, over := f.From(l)
				for _, r := range refs {
					was, n := *c, s.nodes[r]
					delete(s.nodes, r)
					docs, done, e := c.Next(s, top)
					s.nodes[r] = n
					if e == isOK && text(docs) == text(list) && done == over {
						*c = was // it was not needed: the page is taken back
						continue
					}
					if docs != nil || done || e != isLost || *c != was {
						t.Fatalf("without %v: %v, %v, %d; it should be %v", r, docs, done, e, list)
					}
					lost++
				}
				docs, done, e := c.Next(s, top)
				if text(docs) != text(list) || done != over || e != isOK {
					t.Fatalf("%v, %v, %d; %v, %v", docs, done, e, list, over)
				}
			}
		}
	}
	if lost < 1000 {
		t.Errorf("%d lost: that says little", lost)
	}
}

// chain lays branches over a node, with the kid of the digit 0: so many.
func chain(n int, bottom api.Node) (*tape, api.Ref) {
	s := newTape()
	s.nodes[ref(n+1, 1)] = bottom
	for i := range n {
		s.nodes[ref(i+1, 1)] = branch(bottom.Count, map[int]api.Ref{0: ref(i+2, 1)})
	}
	return s, ref(1, 1)
}

// P19.2: a leaf at the level 16 is gone to; a branch there is lost, whatever it has, and its kids are not gone to.
func TestDeepestBranch(t *testing.T) {
	keys := deeps(-1, 6)
	all := items(keys...)
	for what, n := range map[string]api.Node{
		"one with kids":    branch(6, map[int]api.Ref{0: ref(levels+2, 1)}),
		"one without kids": branch(0, nil),
		"one with items":   {Count: 6, Items: all},
	} {
		s, top := chain(levels, n)
		s.nodes[ref(levels+2, 1)] = leaf(all...)
		var way []api.Ref
		for i := range levels + 1 {
			way = append(way, ref(i+1, 1))
		}
		c := open(t, "", "", 2)
		wantLost(t, what, c, s, top)
		wantGets(t, what, s, way...)
		wantFrom(t, c, all, keys[0]+keys[1], false)
		wantLost(t, what, c, s, top)
		wantGets(t, what, s, way...)

		s, top = chain(levels-1, n) // a level above a branch may stand
		s.nodes[ref(levels+2, 1)] = leaf(all...)
		if _, _, e := open(t, "", "", 2).Next(s, top); e != isOK {
			t.Errorf("%s, a level above: %d", what, e)
		}
	}
	s, top := chain(levels, leaf(all...))
	wantNext(t, open(t, "", "", 2), s, top, keys[0]+keys[1], false)
}

// P19.2: what is lost behind a full page is not seen.
func TestLostBehind(t *testing.T) {
	s, top := chain(levels, branch(0, nil))
	first := deep(-1, 0)
	n := s.nodes[top]
	n.Kids[0], n.Kids[1] = ref(50, 1), n.Kids[0]
	s.nodes[top] = n
	s.nodes[ref(50, 1)] = leaf(item(first, 1))
	c := open(t, "", "", 1)
	wantNext(t, c, s, top, first, false)
	wantGets(t, "a full page", s, top, ref(50, 1))
	wantLost(t, "the next one", c, s, top)
	wantLost(t, "a longer one", open(t, "", "", 2), s, top)
}

// No space at all, of which nothing is said: no call panics, and nothing is there.
func TestNoSpace(t *testing.T) {
	for what, s := range map[string]trie.Space{"nil": nil, "of no heap": trie.Of(nil, nil)} {
		c := open(t, "", "", 2)
		wantLost(t, what, c, s, ref(1, 1))
		wantNext(t, c, s, zero, "", true)
	}
}

// ring is a space in which everything goes on for ever: each node is a branch whose kids are itself.
type ring struct{ gets int }

func (s *ring) Get(r api.Ref) (api.Node, bool) {
	s.gets++
	n := api.Node{Count: 9}
	for i := range n.Kids {
		n.Kids[i] = r
	}
	return n, true
}

func (s *ring) Alloc(api.Node) (api.Ref, api.Errno) { return ref(1, 1), isOK }

// P19.2: a ring is gone through down to the level 16.
func TestRing(t *testing.T) {
	s, c := &ring{}, open(t, "", "", 2)
	wantLost(t, "a ring", c, s, ref(1, 1))
	wantFrom(t, c, letters("abc"), "cb", false)
	wantLost(t, "a ring, in the midst", c, s, ref(1, 1))
	if s.gets != 2*(levels+1) {
		t.Errorf("%d gets", s.gets)
	}
}

// sheaf is a space of few nodes and of more ways than could ever be gone: each kid of a branch is the one branch of the next level, and at the level 16 is a leaf.
type sheaf struct {
	bottom []api.Item
	gets   int
}

func (s *sheaf) Get(r api.Ref) (api.Node, bool) {
	s.gets++
	if r.Num > levels {
		return leaf(s.bottom...), true
	}
	var n api.Node
	for i := range n.Kids {
		n.Kids[i] = ref(r.Num+1, 1)
	}
	return n, true
}

func (s *sheaf) Alloc(api.Node) (api.Ref, api.Errno) { return zero, isOK }

// Rule 1: every call ends. What such a tree is told is not said: it is lost, when it has gone on for long without an item; and no item is told twice.
func TestSheaf(t *testing.T) {
	for what, l := range map[string][]api.Item{"no items": nil, "some": letters("abcdeqrsux")} {
		s := &sheaf{bottom: l}
		c, told := open(t, "", "", 2), []string{}
		for {
			docs, done, e := c.Next(s, ref(1, 1))
			for _, x := range docs {
				told = append(told, x.Id)
			}
			if e == isLost {
				break
			}
			if done || len(docs) != 2 {
				t.Fatalf("%s: %v, %v, %d", what, docs, done, e)
			}
		}
		wantLost(t, what, c, s, ref(1, 1))
		wantLost(t, what+", none taken", open(t, `{"none":1}`, "", 2), s, ref(1, 1))
		if want := keysOf(walkOf(l)); !slices.Equal(told, want[:len(want)-len(want)%2]) {
			t.Errorf("%s: %q", what, told)
		}
		if s.gets > 6*maxNodes {
			t.Errorf("%s: %d gets", what, s.gets)
		}
	}
}

// wide is a right tree of more nodes than a heap may have, each made when it is got: branches of all kids at the levels 0 to 4, and at the level 5 leaves of one item, whose Key's digits lead to it. A node's Gen is its level and 1 more, its Num the number of its digits, the first as the lowest.
type wide struct {
	begin [4096]string // of each, the sum has this number's bits from the bit 8 to the bit 19
	gets  int
}

const wideLevels, wideItems = 5, 1 << 20

func newWide() *wide {
	s := &wide{}
	for i, left := 0, len(s.begin); left > 0; i++ {
		k := fmt.Sprint("w", i)
		if at := sumOf(k) >> 8 & 4095; s.begin[at] == "" {
			s.begin[at] = k
			left--
		}
	}
	return s
}

// key is one whose sum ends with that number, of 20 bits: the sum ahead of the last byte is made to fit but for its last 8 bits, and these the byte sets right.
func (s *wide) key(ending uint64) string {
	const prime = 1099511628211
	back := uint64(1) // prime times that is 1, modulo 2^64
	for range 6 {
		back *= 2 - prime*back
	}
	ahead := ending * back & (wideItems - 1)
	begin := s.begin[ahead>>8]
	return begin + string([]byte{byte(ahead ^ sumOf(begin))})
}

func (s *wide) Get(r api.Ref) (api.Node, bool) {
	s.gets++
	level := r.Gen - 1
	if level == wideLevels {
		return leaf(item(s.key(uint64(r.Num)), r.Num)), true
	}
	n := api.Node{Count: wideItems >> (4 * level)}
	for digit := range n.Kids {
		n.Kids[digit] = ref(r.Num+digit<<(4*level), r.Gen+1)
	}
	return n, true
}

func (s *wide) Alloc(api.Node) (api.Ref, api.Errno) { return zero, isOK }

// P19.2, P19.6: a right tree is never too great, whatever its space is.
func TestWide(t *testing.T) {
	s := newWide()
	for _, ending := range []uint64{0, 1, 0xabcde, wideItems - 1} {
		if got := sumOf(s.key(ending)) & (wideItems - 1); got != ending {
			t.Fatalf("%x; want %x", got, ending)
		}
	}
	c, e := cursor.New(taking(t, `{"n":1048575}`), nil, 1)
	if e != isOK {
		t.Fatal(e)
	}
	last := s.key(wideItems - 1)
	wantNext(t, c, s, ref(0, 1), last, false)
	if s.gets <= maxNodes || s.gets != 1118481 {
		t.Errorf("%d gets", s.gets)
	}
	wantState(t, "all of them", c, wideItems, false)
	wantNext(t, c, s, ref(0, 1), "", true)
}

// Leaves that are not right: what they have is looked at in the order of the walk; of alike Keys the first.
func TestWrongLeaves(t *testing.T) {
	s := newTape()
	l := []api.Item{item("c", 1), item("a", 1), item("b", 1), item("a", 2), item("e", 1), item("d", 1), item("c", 2)}
	s.nodes[ref(1, 1)] = api.Node{Leaf: true, Count: -3, Items: l, Kids: [16]api.Ref{3: ref(9, 9)}}
	for batch := 1; batch < 8; batch++ {
		c, f := open(t, "", "", batch), open(t, "", "", batch)
		told := ""
		for !c.Done() {
			docs, done, e := c.Next(s, ref(1, 1))
			list, over := f.From(l)
			if text(docs) != text(list) || done != over || e != isOK {
				t.Errorf("%v, %v, %d; %v, %v", docs, done, e, list, over)
			}
			for _, x := range docs {
				told += x.Id + fmt.Sprint(x.Version)
			}
		}
		if told != "e101c101d101b101a101" || c.Looked() != 5 {
			t.Errorf("of the batch %d: %s, %d", batch, told, c.Looked())
		}
	}
	s.nodes[ref(1, 1)] = api.Node{Leaf: true}
	wantNext(t, open(t, "", "", 1), s, ref(1, 1), "", true)
	s.nodes[ref(1, 1)] = branch(3, nil)
	wantNext(t, open(t, "", "", 1), s, ref(1, 1), "", true)
}
