package trie_test

import (
	"slices"
	"strconv"
	"sync/atomic"
	"testing"

	"docket/api"
	"docket/heap"
	"docket/prim"
	"docket/sched"
	"docket/trie"
)

// The kinds as chapter 10 numbers them, and how a client ends, as chapter 9 does.
const (
	kindGet    = 8
	kindSet    = 9
	wasStopped = 0
	hasEnded   = 1
)

const obj = 6

type client = func(*sched.Client)

func mustHeap(t *testing.T, w *prim.World, most int) *heap.Heap[api.Node] {
	t.Helper()
	h, e := heap.New[api.Node](w, obj, most)
	if e != isOK {
		t.Fatalf("New: %d", e)
	}
	return h
}

func mustRun(t *testing.T, bodies []client, script ...int) api.Run {
	t.Helper()
	r, e := sched.Run(bodies, script)
	if e != isOK {
		t.Fatalf("Run: %d", e)
	}
	return r
}

func wantSteps(t *testing.T, what string, body client, want ...api.Step) {
	t.Helper()
	var got []api.Step
	for _, x := range mustRun(t, []client{body}, make([]int, 200)...).Events {
		got = append(got, x.Step)
	}
	if !slices.Equal(got, want) {
		t.Errorf("%s: %v; want %v", what, got, want)
	}
}

func at(kind, num int) api.Step { return api.Step{Kind: kind, Obj: obj, Num: num} }

// P13.1: its Get and Alloc are the heap's.
func TestOf(t *testing.T) {
	h := mustHeap(t, prim.Scripted(), 2)
	s := trie.Of(h, nil)
	n := leaf(items(1, "a", "b")...)
	r, e := s.Alloc(n)
	if r != ref(1, 1) || e != isOK || h.Made() != 1 {
		t.Errorf("Alloc: %v, %d", r, e)
	}
	b := branch(7, map[int]api.Ref{3: ref(1, 1)})
	if r, e := s.Alloc(b); r != ref(2, 1) || e != isOK {
		t.Errorf("Alloc: %v, %d", r, e)
	}
	if r, e := s.Alloc(n); r != zero || e != isFull {
		t.Errorf("Alloc of a full heap: %v, %d", r, e)
	}
	for r, want := range map[api.Ref]api.Node{ref(1, 1): n, ref(2, 1): b} {
		x, there := s.Get(r)
		y, _ := h.Get(nil, r)
		if !there || !same(x, want) || !same(y, want) {
			t.Errorf("Get of %v: %v, %v", r, x, there)
		}
	}
	for _, r := range []api.Ref{zero, ref(1, 2), ref(3, 1), ref(-1, 1)} {
		if x, there := s.Get(r); there || !same(x, api.Node{}) {
			t.Errorf("Get of %v: %v, %v", r, x, there)
		}
	}
	h.Free(nil, ref(1, 1))
	if x, there := s.Get(ref(1, 1)); there || !same(x, api.Node{}) {
		t.Errorf("Get of what was freed: %v, %v", x, there)
	}
	if r, e := s.Alloc(n); r != ref(1, 2) || e != isOK {
		t.Errorf("Alloc of what was freed: %v, %d", r, e)
	}
}

// Rule 3: neither the list that is handed to Alloc is kept, nor the one that Get answers.
func TestOfKeepsItsOwn(t *testing.T) {
	s := trie.Of(mustHeap(t, prim.Scripted(), 2), nil)
	l := append(make([]api.Item, 0, 8), items(1, "a", "b")...)
	r, _ := s.Alloc(api.Node{Leaf: true, Count: 2, Items: l})
	spoil(l, item("spoilt", -1))
	for range 3 {
		n, _ := s.Get(r)
		if !same(n, leaf(items(1, "a", "b")...)) {
			t.Errorf("%v", n)
		}
		spoil(n.Items, item("spoilt", -1))
	}
}

// P13.1: the steps are those of the client, and of no other call.
func TestSteps(t *testing.T) {
	h := mustHeap(t, prim.Scripted(), 100)
	var top, next api.Ref
	change := func(from *api.Ref, l []api.Edit, to *api.Ref) client {
		return func(c *sched.Client) { *to, _, _ = trie.Change(trie.Of(h, c), *from, l) }
	}
	wantSteps(t, "six Allocs", change(&zero, put(1, "a", "b", "c", "d", "e"), &top),
		at(kindGet, 0), at(kindSet, 1), at(kindGet, 0), at(kindSet, 2), at(kindGet, 0), at(kindSet, 3),
		at(kindGet, 0), at(kindSet, 4), at(kindGet, 0), at(kindSet, 5), at(kindGet, 0), at(kindSet, 6))
	wantSteps(t, "Find", func(c *sched.Client) { trie.Find(trie.Of(h, c), top, "b") }, at(kindGet, 6), at(kindGet, 4))
	wantSteps(t, "Some", func(c *sched.Client) { trie.Some(trie.Of(h, c), top, []string{"b", "c", "x"}) }, at(kindGet, 6), at(kindGet, 2), at(kindGet, 4))
	all := []api.Step{at(kindGet, 6), at(kindGet, 1), at(kindGet, 2), at(kindGet, 3), at(kindGet, 4), at(kindGet, 5)}
	wantSteps(t, "All", func(c *sched.Client) { trie.All(trie.Of(h, c), top) }, all...)
	wantSteps(t, "Refs", func(c *sched.Client) { trie.Refs(trie.Of(h, c), top) }, all...)
	wantSteps(t, "Change", change(&top, gone("c"), &next), at(kindGet, 6), at(kindGet, 2), at(kindGet, 1), at(kindGet, 3), at(kindGet, 4), at(kindGet, 5), at(kindGet, 0), at(kindSet, 7))
	wantSteps(t, "a number that was never made", func(c *sched.Client) { trie.Find(trie.Of(h, c), ref(99, 1), "b") })
	wantSteps(t, "nothing", func(c *sched.Client) {
		trie.Of(h, c)
		trie.Find(trie.Of(h, c), zero, "b")
		trie.All(trie.Of(h, c), zero)
		trie.Some(trie.Of(h, c), top, nil)
		trie.Change(trie.Of(h, c), top, nil)
		trie.Change(trie.Of(h, c), top, put(1, "b", "a"))
	})
	wantSteps(t, "nobody's", func(*sched.Client) { trie.All(trie.Of(h, nil), top) })
}

// A client that is stopped in the midst of a Change has done what its steps did; the old tree is as it was.
func TestStopped(t *testing.T) {
	for picks := range 8 {
		h := mustHeap(t, prim.Scripted(), 100)
		top := treeOf(t, trie.Of(h, nil), "a", "b", "c", "d", "e")
		r := mustRun(t, []client{func(c *sched.Client) {
			trie.Change(trie.Of(h, c), top, put(2, "b", "c"))
			t.Errorf("behind %d steps it went on", picks)
		}}, make([]int, picks)...)
		// Three Gets, and then three times the Get of the pool and the Set of a node.
		if r.Ends[0] != wasStopped || h.Made() != 6+max(picks-3, 0)/2 {
			t.Errorf("behind %d steps: %v, %d made", picks, r.Ends, h.Made())
		}
		wantAll(t, trie.Of(h, nil), top, items(1, "a", "b", "c", "d", "e")...)
	}
}

// P13.8, under every script: whoever reads a tree reads that one, whatever is changed meanwhile.
func TestReadersBeside(t *testing.T) {
	d := newDice(10)
	for range 150 {
		h := mustHeap(t, prim.Scripted(), 5000)
		tops := []api.Ref{zero}
		states := [][]api.Item{nil}
		writer := func(c *sched.Client) {
			for i := range 15 {
				l := d.edits(1+d.Intn(10), i, 4)
				next, _ := mustChange(t, trie.Of(h, c), tops[len(tops)-1], l)
				states = append(states, edited(states[len(states)-1], l))
				tops = append(tops, next)
			}
		}
		reader := func(c *sched.Client) {
			for range 6 {
				i := len(tops) - 1
				s, top, want := trie.Of(h, c), tops[i], states[i]
				wantAll(t, s, top, want...)
				for _, x := range want[:min(len(want), 3)] {
					wantFind(t, s, top, x)
				}
				c.Step(api.Step{Kind: 100}, nil, nil)
			}
		}
		var script []int
		for range 6000 {
			script = append(script, d.Intn(1000))
		}
		r := mustRun(t, []client{reader, writer, reader}, script...)
		if !slices.Equal(r.Ends, []int{hasEnded, hasEnded, hasEnded}) {
			t.Fatalf("%v behind %d", r.Ends, r.Used)
		}
	}
}

// P13.8 in the real world: each tree has a hundred items of one version, and so is told, or is gone.
func TestReallyBeside(t *testing.T) {
	const rounds, lag = 400, 3
	h := mustHeap(t, prim.Real(), 100000)
	var keys []string
	for i := range 100 {
		keys = append(keys, "k"+strconv.Itoa(i))
	}
	slices.Sort(keys)
	var top atomic.Pointer[api.Ref]
	var ended, whole atomic.Int64
	first := treeOf(t, trie.Of(h, nil), keys...)
	top.Store(&first)
	writer := func() {
		defer ended.Store(1)
		var old [][]api.Ref
		for i := range rounds {
			next, retired, e := trie.Change(trie.Of(h, nil), *top.Load(), put(i+2, keys...))
			if e != isOK {
				t.Errorf("Change: %d", e)
			}
			top.Store(&next)
			if old = append(old, retired); len(old) > lag {
				for _, r := range old[0] {
					h.Free(nil, r)
				}
				old = old[1:]
			}
		}
	}
	reader := func() {
		for over := false; !over; {
			over = ended.Load() == 1
			l, e := trie.All(trie.Of(h, nil), *top.Load())
			if e == isLost && l == nil && !over {
				continue
			}
			if len(l) != len(keys) || e != isOK {
				t.Errorf("All: %d items, %d", len(l), e)
				return
			}
			if !same(l, items(int(l[0].Version), keys...)) {
				t.Errorf("of several versions: %v", l)
				return
			}
			whole.Add(1)
		}
	}
	prim.Beside([]func(){reader, writer, reader})
	if whole.Load() < 2 {
		t.Errorf("%d were told whole", whole.Load())
	}
}
