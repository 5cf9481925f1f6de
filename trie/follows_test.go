package trie_test

import (
	"slices"
	"testing"

	"docket/api"
	"docket/heap"
	"docket/prim"
	"docket/trie"
)

// wantShape holds the tree at a Ref against 13.1: the tree of these items, which rise, at that level.
func wantShape(t *testing.T, s *tape, r api.Ref, level int, l []api.Item) {
	t.Helper()
	n, there := s.nodes[r]
	switch {
	case len(l) == 0:
		if r != zero {
			t.Fatalf("%v of no items", r)
		}
	case !there:
		t.Fatalf("%v is not there, at the level %d", r, level)
	case len(l) <= maxLeaf || level == levels:
		if !same(n, leaf(l...)) {
			t.Fatalf("%v at the level %d; want a leaf of %v", n, level, l)
		}
	default:
		if n.Leaf || n.Count != len(l) || len(n.Items) != 0 {
			t.Fatalf("%v at the level %d; want a branch of %v", n, level, l)
		}
		var parts [16][]api.Item
		for _, x := range l {
			digit := digitOf(x.Key, level)
			parts[digit] = append(parts[digit], x)
		}
		for digit, part := range parts {
			wantShape(t, s, n.Kids[digit], level+1, part)
		}
	}
}

// wantTells: Find tells each item and nothing else, All all of them.
func wantTells(t *testing.T, d dice, s trie.Space, top api.Ref, l []api.Item) {
	t.Helper()
	wantAll(t, s, top, l...)
	for _, x := range l {
		wantFind(t, s, top, x)
	}
	for _, k := range d.keys(6) {
		if !slices.ContainsFunc(l, func(x api.Item) bool { return x.Key == k }) {
			wantNone(t, s, top, k)
		}
	}
}

// set is of Refs that stand in it once.
func set(t *testing.T, what string, refs []api.Ref) map[api.Ref]int {
	t.Helper()
	all := map[api.Ref]int{}
	for _, r := range refs {
		if all[r]++; all[r] > 1 {
			t.Fatalf("%s: %v stands there twice: %v", what, r, refs)
		}
	}
	return all
}

// wantRetired: P13.7.
func wantRetired(t *testing.T, s *tape, top, next api.Ref, retired []api.Ref, made int) {
	t.Helper()
	before, _ := trie.Refs(s, top)
	after, e := trie.Refs(s, next)
	old, fresh, out := set(t, "old", before), set(t, "new", after), set(t, "retired", retired)
	for r := range out {
		if old[r] == 0 || fresh[r] != 0 {
			t.Fatalf("%v is retired: of the old tree %d, of the new one %d", r, old[r], fresh[r])
		}
	}
	for r := range old {
		if out[r]+fresh[r] != 1 {
			t.Fatalf("%v of the old tree is retired %d times, and %d times in the new one", r, out[r], fresh[r])
		}
	}
	allocated := 0
	for r := range fresh {
		if r.Num > made {
			allocated++
		} else if old[r] == 0 {
			t.Fatalf("%v of the new tree is neither of the old one nor allocated", r)
		}
	}
	if allocated != s.made-made || e != isOK {
		t.Fatalf("%d allocated, of which %d are in the new tree; %d", s.made-made, allocated, e)
	}
}

// P13.6 to P13.8: histories of changes, each from any of the trees ahead of it.
func TestHistories(t *testing.T) {
	d := newDice(3)
	type state struct {
		top   api.Ref
		items []api.Item
	}
	leaves, branches := 0, 0
	for range 200 {
		s := newTape()
		states := []state{{}}
		most := []int{2, 6, 50}[d.Intn(3)]
		for i := range 30 {
			from := states[len(states)-1]
			if d.Intn(4) == 0 {
				from = states[d.Intn(len(states))]
			}
			tilt := 6
			if i%15 > 8 {
				tilt = -6
			}
			l := d.edits(1+d.Intn(most), i+1, tilt)
			made := s.made
			next, retired := mustChange(t, s, from.top, l)
			want := edited(from.items, l)
			wantShape(t, s, next, 0, want)
			wantTells(t, d, s, next, want)
			wantRetired(t, s, from.top, next, retired, made)
			states = append(states, state{next, want})
			if s.nodes[next].Leaf {
				leaves++
			} else if next != zero {
				branches++
			}
		}
		for _, x := range states {
			wantShape(t, s, x.top, 0, x.items)
			wantTells(t, d, s, x.top, x.items)
		}
	}
	if leaves < 500 || branches < 500 {
		t.Errorf("%d leaves, %d branches", leaves, branches)
	}
}

// P13.8: nothing in the old tree is written, whoever writes into what is told.
func TestOldStays(t *testing.T) {
	d := newDice(4)
	for range 300 {
		s := newTape()
		top := treeOf(t, s, d.keys(40)...)
		was := s.copy()
		l := d.edits(20, 7, 0)
		next, retired, _ := trie.Change(s, top, l)
		kept := s.copy()
		all, _ := trie.All(s, next)
		some, _ := trie.Some(s, next, d.keys(20))
		refs, _ := trie.Refs(s, next)
		spoil(all, item("spoilt", -1))
		spoil(some, item("spoilt", -1))
		spoil(refs, ref(-1, -1))
		spoil(retired, ref(-1, -1))
		spoil(l, api.Edit{Item: item("spoilt", -1)})
		if !same(s.nodes, kept.nodes) {
			t.Fatal("the space was changed by what was told")
		}
		for r, n := range was.nodes {
			if !same(s.nodes[r], n) {
				t.Fatalf("%v was %v, and is %v", r, n, s.nodes[r])
			}
		}
	}
}

// spoil writes over a list, its spare room too.
func spoil[T any](l []T, with T) {
	l = l[:cap(l)]
	for i := range l {
		l[i] = with
	}
}

// Rule 3: what is handed in is not changed, its spare room neither, and not kept.
func TestHandedIn(t *testing.T) {
	s, top := five(t)
	room := slices.Concat(put(2, "b", "c", "q"), put(9, "x", "y"))
	was := slices.Clone(room)
	next, _ := mustChange(t, s, top, room[:3])
	if !same(room, was) {
		t.Errorf("edits: %v; want %v", room, was)
	}
	keys := []string{"b", "c", "q", "x", "y"}
	some, e := trie.Some(s, next, keys[:3])
	if !slices.Equal(keys, []string{"b", "c", "q", "x", "y"}) {
		t.Errorf("keys: %q", keys)
	}
	spoil(room, api.Edit{})
	spoil(keys, "spoilt")
	wantItems(t, "Some", some, e, items(2, "b", "c", "q")...)
	wantAll(t, s, next, item("a", 1), item("b", 2), item("c", 2), item("d", 1), item("e", 1), item("q", 2))

	// A space's lists have spare room too, of which nothing is known.
	wide := append(make([]api.Item, 0, 9), items(1, "a", "b")...)
	hidden := wide[:9]
	hidden[2] = item("hidden", 5)
	s.nodes[ref(90, 1)] = leaf(wide...)
	n := s.nodes[ref(90, 1)]
	n.Items = wide
	s.nodes[ref(90, 1)] = n
	mustChange(t, s, ref(90, 1), put(3, "c", "d"))
	mustChange(t, s, ref(90, 1), gone("a"))
	l, _ := trie.All(s, ref(90, 1))
	spoil(l, item("spoilt", 1))
	if !same(hidden[:3], []api.Item{item("a", 1), item("b", 1), item("hidden", 5)}) {
		t.Errorf("a node's room: %v", hidden)
	}
}

// Rule 3: no two nodes share memory, and none shares it with an answer: what is laid down is written over, and the others stay.
func TestNothingShared(t *testing.T) {
	d := newDice(5)
	for range 200 {
		s := newTape()
		top := treeOf(t, s, d.keys(30)...)
		next, _ := mustChange(t, s, top, d.edits(15, 2, 3))
		all, _ := trie.All(s, next)
		wasAll := slices.Clone(all)
		for r, n := range s.nodes {
			was := s.copy()
			spoil(n.Items, item("spoilt", -1))
			for other, x := range was.nodes {
				if other != r && !same(s.nodes[other], x) {
					t.Fatalf("%v and %v share memory", r, other)
				}
			}
			copy(n.Items, was.nodes[r].Items)
		}
		if !same(all, wasAll) {
			t.Fatal("All's answer shares memory with the nodes")
		}
	}
}

// P13.9.
func TestBounds(t *testing.T) {
	d := newDice(6)
	for range 300 {
		s := newTape()
		var top api.Ref
		for i := range 60 {
			tilt := 8
			if i > 35 {
				tilt = -8
			}
			s.forget()
			top, _ = mustChange(t, s, top, d.edits(1, i, tilt))
			if gets, allocs := len(s.gets()), s.allocs(); gets > levels+1+maxLeaf || allocs > levels+1+maxLeaf {
				t.Fatalf("%d gets, %d allocs", gets, allocs)
			}
			s.forget()
			trie.Find(s, top, d.key())
			if gets := len(s.gets()); gets > levels+1 || s.allocs() > 0 {
				t.Fatalf("Find: %d gets, %d allocs", gets, s.allocs())
			}
		}
	}
}

// P13.10: in one Change, or one by one in any order, or some at a time.
func TestAnyOrder(t *testing.T) {
	d := newDice(7)
	for range 300 {
		s := newTape()
		keys := d.keys(d.Intn(40))
		top := treeOf(t, s, keys...)
		l := d.edits(1+d.Intn(20), 2, 0)
		want := edited(items(1, keys...), l)
		next, _ := mustChange(t, s, top, l)
		wantShape(t, s, next, 0, want)
		for range 3 {
			step := top
			for _, i := range d.Perm(len(l)) {
				step, _ = mustChange(t, s, step, l[i:i+1])
			}
			wantShape(t, s, step, 0, want)
			step = top
			order := d.Perm(len(l))
			for len(order) > 0 {
				n := 1 + d.Intn(len(order))
				var some []api.Edit
				for _, i := range order[:n] {
					some = append(some, l[i])
				}
				step, _ = mustChange(t, s, step, edits(some))
				order = order[n:]
			}
			wantShape(t, s, step, 0, want)
			wantAll(t, s, step, want...)
		}
	}
}

// P13.12.
func TestSomeIsFind(t *testing.T) {
	d := newDice(8)
	for range 1500 {
		s := newTape()
		top := treeOf(t, s, d.keys(d.Intn(80))...)
		refs, _ := trie.Refs(s, top)
		keys := d.keys(d.Intn(50))
		var want []api.Item
		for _, k := range keys {
			if x, there, _ := trie.Find(s, top, k); there {
				want = append(want, x)
			}
		}
		s.forget()
		l, e := trie.Some(s, top, keys)
		wantItems(t, "Some", l, e, want...)
		for r := range set(t, "got", s.gets()) {
			if !slices.Contains(refs, r) {
				t.Fatalf("%v was got, and is not of the tree", r)
			}
		}
		if s.allocs() > 0 {
			t.Fatalf("%v", s.log)
		}
	}
}

// P13.7, with a heap: if what is retired is freed, the live nodes are those of the tree, whatever is used again.
func TestFreed(t *testing.T) {
	d := newDice(9)
	for range 100 {
		h, _ := heap.New[api.Node](prim.Scripted(), 6, 400)
		s := trie.Of(h, nil)
		var top api.Ref
		var want []api.Item
		for i := range 60 {
			l := d.edits(1+d.Intn(12), i, 5-10*(i/20%2))
			next, retired := mustChange(t, s, top, l)
			for _, r := range retired {
				if !h.Free(nil, r) {
					t.Fatalf("%v is retired, and was not there", r)
				}
			}
			top, want = next, edited(want, l)
			refs, e := trie.Refs(s, top)
			if e != isOK || h.Live() != len(refs) {
				t.Fatalf("%d live, %d of the tree, %d", h.Live(), len(refs), e)
			}
			wantTells(t, d, s, top, want)
		}
	}
}
