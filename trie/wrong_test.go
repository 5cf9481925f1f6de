package trie_test

import (
	"fmt"
	"slices"
	"testing"

	"docket/api"
	"docket/trie"
)

// wantLost: each call that goes to what is lost tells so, and nothing else. Of which calls is said by their numbers.
func wantLost(t *testing.T, what string, s trie.Space, a ask, calls ...int) {
	t.Helper()
	for _, call := range calls {
		if x := a.built(call, s); !same(x, answer{why: isLost}) {
			t.Errorf("%s, %s: %v", what, nameOf(call), x)
		}
	}
}

func every() []int { return []int{toFind, toAll, toSome, toChange, toRefs} }

// 13.2: where Get answers false, the answer is ErrLost, at once.
func TestLostTop(t *testing.T) {
	s := newTape()
	s.nodes[ref(5, 1)] = leaf(items(1, "a")...)
	for _, top := range []api.Ref{ref(1, 1), ref(0, 1), ref(5, 0), ref(5, 2), ref(-1, 1), ref(1<<62, -1<<62)} {
		for _, l := range [][]api.Edit{put(1, "a"), gone("a"), put(1, "a", "b")} {
			wantLost(t, "a top that is not there", s, ask{top: top, key: "a", keys: []string{"a", "b"}, edits: l}, every()...)
		}
		wantLog(t, "one Get of each call", s, got(slices.Repeat([]api.Ref{top}, 15)...)...)
	}
}

// 13.2: a kid that is not there is lost to those that go to it; and nothing more is got.
func TestLostKid(t *testing.T) {
	s, top := five(t)
	delete(s.nodes, ref(3, 1)) // the leaf of d; its digit is behind those of e and c, ahead of those of b and a
	a := ask{top: top, key: "d", keys: []string{"a", "c", "d"}, edits: edits(put(2, "a", "c"), gone("d"))}
	wantLost(t, "the way to d", s, a, every()...)
	way := got(nums(6, 3)...)
	wantLog(t, "up to d", s, slices.Concat(way, got(nums(6, 1, 2, 3)...), got(nums(6, 2, 3)...), got(nums(6, 2, 3)...), got(nums(6, 1, 2, 3)...))...)

	wantFind(t, s, top, item("a", 1))
	l, e := trie.Some(s, top, []string{"a", "c", "x"})
	wantItems(t, "others", l, e, items(1, "a", "c")...)
	wantChange(t, s, top, put(2, "a", "c"), ref(9, 1), nums(6, 2, 5)...)
	s.forget()
	wantLost(t, "a leaf of all", s, ask{top: top, edits: gone("b")}, toChange)
	wantLog(t, "up to d", s, got(nums(6, 4, 1, 2, 3)...)...)
}

// chain lays branches over a leaf, or a branch, with the kid of the digit 0: so many, and the leaf's items.
func chain(n int, bottom api.Node) (*tape, api.Ref) {
	s := newTape()
	s.nodes[ref(n+1, 1)] = bottom
	for i := range n {
		s.nodes[ref(i+1, 1)] = branch(bottom.Count, map[int]api.Ref{0: ref(i+2, 1)})
	}
	s.made = 100
	return s, ref(1, 1)
}

// 13.2: a leaf at the level 16 is gone to; a branch there is lost, whatever it has, and its kids are not gone to.
func TestDeepestBranch(t *testing.T) {
	all := items(1, deeps(-1, 6)...)
	s, top := chain(levels, leaf(all...))
	a := ask{top: top, key: all[2].Key, keys: []string{all[1].Key, all[2].Key}, edits: put(2, all[2].Key)}
	for _, call := range every() {
		if x := a.built(call, s); x.why != isOK {
			t.Errorf("%s: %v", nameOf(call), x)
		}
	}
	for what, n := range map[string]api.Node{
		"one with kids":    branch(6, map[int]api.Ref{0: ref(levels+2, 1)}),
		"one without kids": branch(0, nil),
		"one with items":   {Count: 6, Items: all},
	} {
		s, top := chain(levels, n)
		s.nodes[ref(levels+2, 1)] = leaf(all...)
		a.top = top
		wantLost(t, what, s, a, every()...)
		var way []deed
		for i := range levels + 1 {
			way = append(way, deed{got: ref(i+1, 1)})
		}
		wantLog(t, what, s, slices.Repeat(way, allCalls)...)
		s, top = chain(levels-1, n)
		a.top = top
		s.nodes[ref(levels+1, 1)] = leaf(all...)
		s.nodes[ref(levels+2, 1)] = leaf(all...)
		if x := a.built(toFind, s); x.why != isOK {
			t.Errorf("%s, a level above: %v", what, x)
		}
	}
}

// P13.4, 4 and 13.2: a branch at the level 16 is lost too where it is got to be one of a leaf's; at lower levels it has no items.
func TestBranchForALeaf(t *testing.T) {
	for _, n := range []int{1, 5, levels - 1, levels} {
		s, top := chain(n-1, branch(5, map[int]api.Ref{0: ref(50, 1), 1: ref(51, 1)}))
		s.nodes[ref(50, 1)] = leaf(item(deep(-1, 0), 1))
		s.nodes[ref(51, 1)] = branch(4, nil)
		s.forget()
		next, retired, e := trie.Change(s, top, gone(deep(-1, 0)))
		if gets := s.gets(); len(gets) != n+2 || gets[n+1] != ref(51, 1) {
			t.Errorf("%v", gets)
		}
		if n == levels {
			if next != zero || retired != nil || e != isLost {
				t.Errorf("at the level 16: %v, %v, %d", next, retired, e)
			}
		} else if next != zero || !slices.Equal(retired, s.gets()) || e != isOK {
			t.Errorf("at the level %d: %v, %v, %d", n, next, retired, e)
		}
	}
}

// P13.4, 4: how many there are is reckoned by the Counts that the nodes tell, which in trees that are not right need not be so.
func TestCountsAsTold(t *testing.T) {
	change := func(top, kid int, l []api.Edit) (*tape, api.Ref) {
		t.Helper()
		s, ref := five(t)
		n := s.nodes[ref]
		n.Count = top
		s.nodes[ref] = n
		n = s.nodes[api.Ref{Num: 2, Gen: 1}] // of c
		n.Count = kid
		s.nodes[api.Ref{Num: 2, Gen: 1}] = n
		next, _ := mustChange(t, s, ref, l)
		return s, next
	}
	for _, x := range []struct{ top, kid, want int }{{100, 1, 99}, {100, 7, 93}, {100, -7, 107}, {6, 1, 5}, {5, 0, 5}, {-9, -20, 11}} {
		s, next := change(x.top, x.kid, gone("c"))
		if n := s.nodes[next]; n.Leaf || n.Count != x.want || n.Items != nil {
			t.Errorf("of %v, one taken away: %v", x, n)
		}
	}
	for _, x := range []struct{ top, kid int }{{5, 1}, {6, 2}, {0, 1}, {-100, 1}, {4, 0}, {-3, -7}} {
		s, next := change(x.top, x.kid, gone("c"))
		if n := s.nodes[next]; !same(n, leaf(items(1, "a", "b", "d", "e")...)) {
			t.Errorf("of %v, one taken away: %v", x, n)
		}
	}
	s, next := change(1, 5, put(2, "c"))
	if n := s.nodes[next]; !same(n, leaf(item("a", 1), item("b", 1), item("c", 2), item("d", 1), item("e", 1))) {
		t.Errorf("one leaf of all, though there are five: %v", n)
	}
	s, next = change(5, 5, put(2, "c", "s")) // both are of the digit 2
	if n := s.nodes[next]; !n.Leaf || n.Count != 6 || len(n.Items) != 6 {
		t.Errorf("one leaf of all, though there are six: %v", n)
	}
	// The kid becomes a branch, all of it new; yet the top becomes a leaf.
	var more []string
	for i := 0; len(more) < 6; i++ {
		if k := fmt.Sprint("x", i); digitOf(k, 0) == 2 {
			more = append(more, k)
		}
	}
	l := put(2, sortedKeys(more...)...)
	s, next = change(-10, 0, l)
	if n := s.nodes[next]; !same(n, leaf(edited(items(1, "a", "b", "c", "d", "e"), l)...)) {
		t.Errorf("one leaf of all, though a kid is a branch: %v", n)
	}
}

// edited are the items behind the edits, by rising keys.
func edited(l []api.Item, by []api.Edit) []api.Item {
	all := map[string]api.Item{}
	for _, x := range l {
		all[x.Key] = x
	}
	for _, x := range by {
		delete(all, x.Item.Key)
		if !x.Gone {
			all[x.Item.Key] = x.Item
		}
	}
	var out []api.Item
	for _, x := range all {
		out = append(out, x)
	}
	return sorted(out)
}

// P13.4: where Alloc answers an error, that is the answer; what was allocated ahead of it stays, and nothing more is done.
func TestAllocErrors(t *testing.T) {
	for room := range 6 {
		s := newTape()
		s.room = room
		next, retired, e := trie.Change(s, zero, put(1, "a", "b", "c", "d", "e"))
		if next != zero || retired != nil || e != isFull {
			t.Errorf("room for %d: %v, %v, %d", room, next, retired, e)
		}
		if len(s.log) != room+1 || len(s.nodes) != room {
			t.Errorf("room for %d: %v", room, s.log)
		}
	}
	s, top := five(t)
	s.room = 1
	if next, retired, e := trie.Change(s, top, put(2, "a")); next != zero || retired != nil || e != isFull || len(s.nodes) != 7 {
		t.Errorf("room for a leaf: %v, %v, %d", next, retired, e)
	}
	wantAll(t, s, top, items(1, "a", "b", "c", "d", "e")...)
	s.room = 0
	for _, l := range [][]api.Edit{nil, gone("x"), gone("a", "b", "c", "d", "e")} {
		if _, _, e := trie.Change(s, top, l); e != isOK {
			t.Errorf("nothing is laid down: %d", e)
		}
	}
}

// refuse is a space of another error, which no number of api need be.
type refuse struct{ *tape }

func (refuse) Alloc(api.Node) (api.Ref, api.Errno) { return ref(3, 3), -12345 }

func TestAnyAllocError(t *testing.T) {
	s, top := five(t)
	for _, top := range []api.Ref{zero, top} {
		if next, retired, e := trie.Change(refuse{s}, top, put(2, "a")); next != zero || retired != nil || e != -12345 {
			t.Errorf("%v, %v, %d", next, retired, e)
		}
	}
}

// ring is a space in which everything goes on for ever: each node is a branch whose kids are itself.
type ring struct{ gets int }

func (s *ring) Get(r api.Ref) (api.Node, bool) {
	s.gets++
	n := api.Node{Count: 9}
	for i := range n.Kids {
		n.Kids[i] = r
	}
	return n, true
}

func (s *ring) Alloc(api.Node) (api.Ref, api.Errno) { return ref(1, 1), isOK }

// 13.2: a ring is gone through down to the level 16.
func TestRing(t *testing.T) {
	s := &ring{}
	wantLost(t, "a ring", s, ask{top: ref(1, 1), key: "a", keys: []string{"a", "b"}, edits: put(1, "a", "b")}, every()...)
	if s.gets != allCalls*(levels+1) {
		t.Errorf("%d gets", s.gets)
	}
}

// No space at all, of which nothing is said: no call panics, and nothing is there.
func TestNoSpace(t *testing.T) {
	a := ask{top: ref(1, 1), key: "a", keys: []string{"a"}, edits: put(1, "a")}
	for what, s := range map[string]trie.Space{"nil": nil, "of no heap": trie.Of(nil, nil)} {
		wantLost(t, what, s, a, every()...)
		a := a
		a.top = zero
		for _, call := range every() {
			if x := a.built(call, s); !same(x, answer{}) {
				t.Errorf("%s, %s: %v", what, nameOf(call), x)
			}
		}
	}
}

// Leaves that are not right: each call goes by what their Items are.
func TestWrongLeaves(t *testing.T) {
	s := newTape()
	l := []api.Item{item("c", 1), item("a", 1), item("b", 1), item("a", 2), item("e", 1), item("d", 1), item("c", 2)}
	s.nodes[ref(1, 1)] = api.Node{Leaf: true, Count: -3, Items: l, Kids: [16]api.Ref{3: ref(9, 9)}}
	s.made = 1
	for _, x := range []api.Item{item("a", 1), item("b", 1), item("c", 1), item("d", 1), item("e", 1)} {
		wantFind(t, s, ref(1, 1), x)
	}
	wantAll(t, s, ref(1, 1), item("a", 1), item("a", 2), item("b", 1), item("c", 1), item("c", 2), item("d", 1), item("e", 1))
	some, e := trie.Some(s, ref(1, 1), []string{"a", "d", "x"})
	wantItems(t, "Some", some, e, item("a", 1), item("a", 2), item("d", 1))
	next, _ := mustChange(t, s, ref(1, 1), edits(put(7, "a"), gone("c", "x")))
	if n := s.nodes[next]; !same(n, leaf(item("a", 7), item("b", 1), item("d", 1), item("e", 1))) {
		t.Errorf("%v", n)
	}
	next, _ = mustChange(t, s, ref(1, 1), put(7, "b"))
	wantAll(t, s, next, item("a", 1), item("a", 2), item("b", 7), item("c", 1), item("c", 2), item("d", 1), item("e", 1))
	if n := s.nodes[next]; n.Leaf || n.Count != 7 {
		t.Errorf("a leaf of seven at the level 0: %v", n)
	}
	if got := fmt.Sprint(s.nodes[ref(1, 1)].Items); got != fmt.Sprint(l) {
		t.Errorf("the leaf was changed: %s", got)
	}
}
