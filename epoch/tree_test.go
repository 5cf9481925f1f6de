package epoch_test

import (
	"fmt"
	"slices"
	"testing"

	"docket/api"
	"docket/clocks"
	"docket/epoch"
	"docket/heap"
	"docket/prim"
	"docket/sched"
	"docket/trie"
)

// forest is a root whose nodes are those of a tree (chapter 13).
type forest struct {
	stamp int64
	top   api.Ref
}

func (f forest) Stamp() int64 { return f.stamp }

// garden is a tree that some change and others read: what it is for is what stands beside it, the items that each stamp's tree has.
type garden struct {
	h     *heap.Heap[api.Node]
	k     *epoch.Keeper[forest, api.Node]
	lock  *prim.Mutex
	items map[int64]string
	old   int
}

func newGarden(t *testing.T, w *prim.World, slots int) *garden {
	t.Helper()
	h := mustHeap[api.Node](t, w, 5000)
	return &garden{h: h, k: mustKeep(t, w, h, slots, forest{}), lock: w.Mutex(lockObj, 0), items: map[int64]string{0: told(nil)}}
}

func told(l []api.Item) string {
	s := ""
	for _, x := range l {
		s += fmt.Sprint(x.Key, "=", x.Version, " ")
	}
	return s
}

func (d dice) edits(stamp int64) []api.Edit {
	keys := map[string]bool{}
	for range d.Intn(6) {
		keys[fmt.Sprint("k", d.Intn(40))] = true
	}
	var l []api.Edit
	for k := range keys {
		l = append(l, api.Edit{Item: api.Item{Key: k, Version: stamp}})
	}
	slices.SortFunc(l, func(a, b api.Edit) int {
		if a.Item.Key < b.Item.Key {
			return -1
		}
		return 1
	})
	for i := range l {
		l[i].Gone = d.Intn(3) == 0
	}
	return l
}

// gardener changes the tree, as a store would: by what the trie tells of it, without a look at what was retired.
func (g *garden) gardener(t *testing.T, d dice, calls int) client {
	return func(c *sched.Client) {
		for range calls {
			g.lock.Lock(c)
			was := g.k.Root(c)
			next := forest{stamp: was.stamp + 1}
			top, retired, e := trie.Change(trie.Of(g.h, c), was.top, d.edits(next.stamp))
			if e != api.OK {
				t.Errorf("Change: %d", e)
			}
			next.top = top
			all, _ := trie.All(trie.Of(g.h, nil), top)
			g.items[next.stamp] = told(all)
			g.k.Publish(c, next, retired)
			g.lock.Unlock(c)
		}
	}
}

// visitor reads whole trees, and is told all of each: P14.7.
func (g *garden) visitor(t *testing.T, calls int) client {
	return func(c *sched.Client) {
		for range calls {
			f := g.k.Pin(c, c.Number())
			all, e := trie.All(trie.Of(g.h, c), f.top)
			if e != api.OK || told(all) != g.items[f.stamp] {
				t.Errorf("the tree of %d: %d, %s; want %s", f.stamp, e, told(all), g.items[f.stamp])
			}
			if f.stamp < g.k.Root(nil).stamp {
				g.old++
			}
			g.k.Unpin(c, c.Number())
		}
	}
}

// P14.7, P14.8, with trees: what they retire is just what the next one has not.
func TestTrees(t *testing.T) {
	d := newDice(8)
	old := 0
	for range 150 {
		g := newGarden(t, prim.Scripted(), 4)
		bodies := []client{g.visitor(t, 40), g.visitor(t, 40), g.gardener(t, d, 12), g.gardener(t, d, 12)}
		r := mustRun(t, bodies, d.script(9000)...)
		if !slices.Equal(r.Ends, []int{hasEnded, hasEnded, hasEnded, hasEnded}) {
			t.Errorf("ends %v", r.Ends)
		}
		if races, e := clocks.Races(r.Events, len(bodies)); len(races) != 0 || e != api.OK {
			t.Errorf("races %v, %d", races, e)
		}
		g.k.Pass(nil)
		refs, e := trie.Refs(trie.Of(g.h, nil), g.k.Root(nil).top)
		if e != api.OK || g.k.Retired() != 0 || g.h.Live() != len(refs) {
			t.Errorf("%d retired, %d live; want the root's %d", g.k.Retired(), g.h.Live(), len(refs))
		}
		old += g.old
		if t.Failed() {
			t.FailNow()
		}
	}
	if old < 500 {
		t.Errorf("%d old trees were read", old)
	}
}
