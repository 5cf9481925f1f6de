package trie_test

import (
	"slices"
	"strconv"
	"testing"
	"time"

	"docket/api"
	"docket/prim"
	"docket/trie"
)

// soon is how long a call on many items may take: it is far more than it does.
const soon = time.Minute

func mustBeSoon(t *testing.T, what string, f func()) {
	t.Helper()
	from := time.Now()
	f()
	if took := time.Since(from); took > soon {
		t.Errorf("%s: it took %v", what, took)
	}
}

// full is a space of so many nodes, each branch with as many kids as there are left, level by level; its leaves have no items.
type full struct{ nodes, gets int }

func (s *full) Get(r api.Ref) (api.Node, bool) {
	s.gets++
	if r.Gen != 1 || r.Num < 1 || r.Num > s.nodes {
		return api.Node{}, false
	}
	var n api.Node
	first := 16*(r.Num-1) + 2
	n.Leaf = first > s.nodes
	for i := range n.Kids {
		if first+i <= s.nodes {
			n.Kids[i] = ref(first+i, 1)
		}
	}
	return n, true
}

func (s *full) Alloc(api.Node) (api.Ref, api.Errno) { return zero, isFull }

// 13.2: no call gets more than MaxNodes nodes.
func TestMostNodes(t *testing.T) {
	s := &full{nodes: maxNodes}
	if l, e := trie.All(s, ref(1, 1)); len(l) != 0 || e != isOK || s.gets != maxNodes {
		t.Errorf("All of as many as may be: %d, %d gets", e, s.gets)
	}
	s.gets = 0
	if l, e := trie.Refs(s, ref(1, 1)); len(l) != maxNodes || e != isOK || s.gets != maxNodes {
		t.Errorf("Refs of as many as may be: %d, %d, %d gets", len(l), e, s.gets)
	}
	for _, more := range []int{1, 100000} {
		s := &full{nodes: maxNodes + more}
		wantLost(t, "too many", s, ask{top: ref(1, 1)}, toAll, toRefs)
		if s.gets != 2*maxNodes {
			t.Errorf("%d more: %d gets", more, s.gets)
		}
	}
}

// roads is a space in which each way of digits leads on to the level 16, or to where it is cut off: there is a leaf.
// A node's Gen is its level, from 1 on, and its Num are the digits that lead to it.
type roads struct {
	cut  map[api.Ref]int
	odd  map[api.Ref]api.Node // others than the branches of all kids
	seen map[api.Ref]int      // how often these were got
	gets int
}

func newRoads() *roads {
	return &roads{cut: map[api.Ref]int{}, odd: map[api.Ref]api.Node{}, seen: map[api.Ref]int{}}
}

func (s *roads) Get(r api.Ref) (api.Node, bool) {
	s.gets++
	if n, there := s.odd[r]; there {
		s.seen[r]++
		return n, true
	}
	level := r.Gen - 1
	if level == levels || s.cut[r] > 0 {
		return api.Node{Leaf: true}, true
	}
	n := api.Node{Count: 1 << 40}
	for digit := range n.Kids {
		n.Kids[digit] = kidOf(r, digit)
	}
	return n, true
}

func kidOf(r api.Ref, digit int) api.Ref {
	return ref(int(uint64(r.Num)|uint64(digit)<<(4*(r.Gen-1))), r.Gen+1)
}

func (s *roads) Alloc(api.Node) (api.Ref, api.Errno) { return ref(1, 100), isOK }

// way are the nodes to a key.
func way(key string) []api.Ref {
	all := []api.Ref{ref(0, 1)}
	sum := sumOf(key)
	for level := range levels {
		all = append(all, kidOf(all[level], int(sum>>(4*level)&15)))
	}
	return all
}

// manyKeys are as many of those that are taken as lead to just so many nodes; the last way is cut off for that.
func (s *roads) manyKeys(nodes int, take func(key string) bool) []string {
	all := map[api.Ref]int{}
	var keys []string
	for i := 0; len(all) < nodes; i++ {
		k := "n" + strconv.Itoa(i)
		if !take(k) {
			continue
		}
		keys = append(keys, k)
		for _, r := range way(k) {
			if all[r] == 0 && len(all) == nodes {
				break
			}
			if all[r]++; len(all) == nodes {
				s.cut[r] = 1
			}
		}
	}
	slices.Sort(keys)
	return keys
}

func anyKey(string) bool { return true }

// 13.2: likewise of the calls that are told keys.
func TestMostNodesOfKeys(t *testing.T) {
	s := newRoads()
	keys := s.manyKeys(maxNodes, anyKey)
	top := ref(0, 1)
	if l, e := trie.Some(s, top, keys); len(l) != 0 || e != isOK || s.gets != maxNodes {
		t.Fatalf("Some of as many as may be: %d, %d gets", e, s.gets)
	}
	s.gets = 0
	if next, retired, e := trie.Change(s, top, gone(keys...)); next != top || len(retired) != 0 || e != isOK || s.gets != maxNodes {
		t.Fatalf("Change of as many as may be: %d, %d gets", e, s.gets)
	}
	s = newRoads()
	keys = s.manyKeys(maxNodes+1, anyKey)
	a := ask{top: top, keys: keys, edits: gone(keys...)}
	for _, call := range []int{toSome, toChange} {
		s.gets = 0
		wantLost(t, "one too many", s, a, call)
		if s.gets != maxNodes {
			t.Errorf("%s of one too many: %d gets", nameOf(call), s.gets)
		}
	}
}

// firstKey is the first that has these digits at the levels 0 and 1.
func firstKey(first, second int) string {
	for i := 0; ; i++ {
		if k := "n" + strconv.Itoa(i); digitOf(k, 0) == first && digitOf(k, 1) == second {
			return k
		}
	}
}

// 13.2 with P13.4, 4: a node that is got twice is one node; and one that is got to become one of a leaf's is counted.
func TestMostNodesTwice(t *testing.T) {
	end := kidOf(ref(0, 1), 1)
	kids := [3]api.Ref{kidOf(end, 3), kidOf(end, 5), kidOf(end, 9)}
	for more := range 2 {
		s := newRoads()
		// Behind all others, at the digit 1, is a branch of three kids: one is changed, one stays and is looked at, one is not looked at.
		keys := s.manyKeys(maxNodes-4+more, func(k string) bool { return digitOf(k, 0) == 0 })
		keys = sortedKeys(append(keys, firstKey(1, 3), firstKey(1, 5))...)
		s.odd[end] = branch(3, map[int]api.Ref{3: kids[0], 5: kids[1], 9: kids[2]})
		s.odd[kids[0]] = leaf(item(firstKey(1, 3), 1))
		s.odd[kids[2]] = leaf(item("two", 1))
		for _, looked := range []api.Node{leaf(item("one", 1)), branch(0, nil)} {
			s.odd[kids[1]] = looked
			s.gets = 0
			clear(s.seen)
			next, retired, e := trie.Change(s, ref(0, 1), gone(keys...))
			if s.gets != maxNodes+1 || s.seen[kids[1]] != 2 || s.seen[kids[2]] != 1-more {
				t.Errorf("%d gets, of odd ones %v", s.gets, s.seen)
			}
			if more == 1 && (next != zero || retired != nil || e != isLost) {
				t.Errorf("one too many: %v, %d retired, %d", next, len(retired), e)
			}
			if more == 0 && (next != ref(1, 100) || e != isOK || !slices.Equal(retired, []api.Ref{ref(0, 1), end, kids[0], kids[1], kids[2]})) {
				t.Errorf("as many as may be: %v, %v retired, %d", next, retired, e)
			}
		}
	}
}

// Many items, at once and one by one, in each world.
func TestManyItems(t *testing.T) {
	const n = 60000
	var keys []string
	for i := range n {
		keys = append(keys, "orders/"+strconv.Itoa(i))
	}
	slices.Sort(keys)
	for _, w := range []*prim.World{prim.Scripted(), prim.Real()} {
		h := mustHeap(t, w, maxNodes)
		s := trie.Of(h, nil)
		var top api.Ref
		mustBeSoon(t, "to lay them down", func() { top = treeOf(t, s, keys...) })
		mustBeSoon(t, "to tell them", func() {
			if l, e := trie.All(s, top); len(l) != n || e != isOK || l[0].Key != keys[0] || l[n-1].Key != keys[n-1] {
				t.Errorf("All: %d items, %d", len(l), e)
			}
			if l, e := trie.Some(s, top, keys); len(l) != n || e != isOK {
				t.Errorf("Some: %d items, %d", len(l), e)
			}
		})
		mustBeSoon(t, "to change them one by one", func() {
			for i, k := range keys {
				next, retired := mustChange(t, s, top, put(i, k))
				for _, r := range retired {
					h.Free(nil, r)
				}
				top = next
			}
		})
		mustBeSoon(t, "to take them all away", func() {
			next, retired := mustChange(t, s, top, gone(keys...))
			if next != zero || len(retired) != h.Live() {
				t.Errorf("%v, %d retired of %d", next, len(retired), h.Live())
			}
		})
	}
}

// A tree that is not right may tell one great leaf at each of its places: a call ends, and does not hold each of them.
func TestGreatLeafEverywhere(t *testing.T) {
	big := leaf(items(1, slices.Repeat([]string{"a"}, 500)...)...)
	s := &greatLeaf{leaf: big}
	mustBeSoon(t, "a great leaf everywhere", func() {
		wantLost(t, "a great leaf everywhere", s, ask{top: ref(1, 1)}, toAll)
	})
	if s.gets != maxNodes {
		t.Errorf("%d gets", s.gets)
	}
}

// greatLeaf has branches of sixteen kids down to a level, and the same leaf below.
type greatLeaf struct {
	leaf api.Node
	gets int
}

func (s *greatLeaf) Get(r api.Ref) (api.Node, bool) {
	s.gets++
	if r.Num == 7 {
		return s.leaf, true
	}
	n := api.Node{Count: 9}
	for i := range n.Kids {
		n.Kids[i] = ref(r.Num+1, 1)
	}
	return n, true
}

func (s *greatLeaf) Alloc(api.Node) (api.Ref, api.Errno) { return zero, isFull }
