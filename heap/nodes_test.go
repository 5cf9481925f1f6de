package heap_test

import (
	"math"
	"runtime"
	"slices"
	"testing"
	"weak"

	"docket/api"
	"docket/heap"
	"docket/prim"
)

// 12.4, example 1; in both worlds, and in a nil one.
func TestFirstExample(t *testing.T) {
	for _, w := range []*prim.World{prim.Scripted(), prim.Real(), nil} {
		h := mustNew[string](t, w, 2)
		wantCounts(t, h, 0, 0, 0)
		wantAlloc(t, h, "a", ref(1, 1))
		wantAlloc(t, h, "b", ref(2, 1))
		wantFull(t, h)
		wantFree(t, h, ref(1, 1), true)
		wantFree(t, h, ref(1, 1), false)
		wantNone(t, h, ref(1, 1))
		wantCounts(t, h, 2, 1, 1, 2, 1)
		wantAlloc(t, h, "d", ref(1, 2))
		wantNone(t, h, ref(1, 1))
		wantValue(t, h, ref(1, 2), "d")
		wantValue(t, h, ref(2, 1), "b")
		wantFull(t, h)
		wantCounts(t, h, 2, 0, 2, 2, 1)
	}
}

// P12.1: most is 1 to MaxNodes; nothing else of the arguments is asked.
func TestNew(t *testing.T) {
	for _, most := range []int{0, -1, maxNodes + 1, maxNodes + 2, 2 * maxNodes, math.MaxInt, math.MinInt, -maxNodes} {
		for _, w := range []*prim.World{prim.Scripted(), prim.Real(), nil} {
			if h, e := heap.New[int](w, obj, most); h != nil || e != isArg {
				t.Errorf("New of %d: %v, %d", most, h, e)
			}
		}
	}
	for _, most := range []int{1, 2, maxNodes - 1, maxNodes} {
		for _, of := range []int{0, 5, -7, math.MaxInt, math.MinInt} {
			h, e := heap.New[string](prim.Scripted(), of, most)
			if h == nil || e != isOK {
				t.Fatalf("New of %d, %d: %d", of, most, e)
			}
			wantCounts(t, h, 0, 0, 0)
			wantAlloc(t, h, "x", ref(1, 1))
			wantCounts(t, h, 1, 0, 1, 1)
		}
	}
}

// P12.1: it makes most at most, and just as many.
func TestMost(t *testing.T) {
	for most := 1; most <= 70; most++ {
		h := mustNew[int](t, prim.Scripted(), most)
		for i := range most {
			wantAlloc(t, h, i, ref(i+1, 1))
		}
		wantFull(t, h)
		wantFull(t, h)
		wantCounts(t, h, most, 0, most, slices.Repeat([]int{1}, most)...)
	}
}

// P12.1: heaps of one world, even of one obj, have nothing to do with one another.
func TestHeapsApart(t *testing.T) {
	w := prim.Scripted()
	one, two := mustNew[string](t, w, 1), mustNew[string](t, w, 2)
	wantAlloc(t, one, "one", ref(1, 1))
	wantAlloc(t, two, "two", ref(1, 1))
	wantFree(t, one, ref(1, 1), true)
	wantValue(t, two, ref(1, 1), "two")
	wantAlloc(t, two, "three", ref(2, 1))
	wantAlloc(t, one, "four", ref(1, 2))
	wantCounts(t, one, 1, 0, 1, 2)
	wantCounts(t, two, 2, 0, 2, 1, 1)
}

// P12.2: the number that was freed last is used first.
func TestLastFreedFirst(t *testing.T) {
	h := mustNew[int](t, prim.Scripted(), 10)
	for i := range 5 {
		wantAlloc(t, h, i, ref(i+1, 1))
	}
	for _, num := range []int{4, 1, 3} {
		wantFree(t, h, ref(num, 1), true)
	}
	wantCounts(t, h, 5, 3, 2, 2, 1, 2, 2, 1)
	wantAlloc(t, h, 30, ref(3, 2))
	wantAlloc(t, h, 10, ref(1, 2))
	wantFree(t, h, ref(2, 1), true)
	wantFree(t, h, ref(3, 2), true)
	wantCounts(t, h, 5, 3, 2, 2, 2, 3, 2, 1)
	wantAlloc(t, h, 31, ref(3, 3))
	wantAlloc(t, h, 20, ref(2, 2))
	wantAlloc(t, h, 40, ref(4, 2))
	wantAlloc(t, h, 60, ref(6, 1))
	for r, v := range map[api.Ref]int{ref(1, 2): 10, ref(2, 2): 20, ref(3, 3): 31, ref(4, 2): 40, ref(5, 1): 4, ref(6, 1): 60} {
		wantValue(t, h, r, v)
	}
	wantCounts(t, h, 6, 0, 6, 2, 2, 3, 2, 1, 1)
}

// P12.2: a pool of any length, from which is taken and to which is added, is used from its end on.
func TestDeepPools(t *testing.T) {
	const most = 300
	d := newDice(1)
	for range 30 {
		h := mustNew[int](t, prim.Scripted(), most)
		var plain []int
		gens := make([]int, most+1)
		for i := range most {
			wantAlloc(t, h, i, ref(i+1, 1))
			gens[i+1] = 1
		}
		for _, i := range d.Perm(most) {
			wantFree(t, h, ref(i+1, 1), true)
			plain = append(plain, i+1)
			gens[i+1]++
		}
		for range 1500 {
			if n := len(plain); n > 0 && (n == most || d.Intn(2) == 0) {
				wantAlloc(t, h, n, ref(plain[n-1], gens[plain[n-1]]))
				plain = plain[:n-1]
			} else if num := d.Intn(most) + 1; !slices.Contains(plain, num) {
				wantFree(t, h, ref(num, gens[num]), true)
				plain = append(plain, num)
				gens[num]++
			}
			if h.Pooled() != len(plain) {
				t.Fatalf("%d pooled; want %d", h.Pooled(), len(plain))
			}
		}
	}
}

// P12.3, P12.4: a Ref of which no node was made, or of another generation, names nothing.
func TestWrongRefs(t *testing.T) {
	for _, w := range []*prim.World{prim.Scripted(), prim.Real()} {
		h := mustNew[string](t, w, 9)
		wrong := []api.Ref{{}, ref(0, 1), ref(1, 1), ref(-1, 1), ref(-1, 0), ref(9, 1), ref(10, 1), ref(math.MaxInt, 1), ref(math.MinInt, 1), ref(math.MinInt, math.MinInt)}
		wantNothing(t, h, wrong)
		wantCounts(t, h, 0, 0, 0)

		mustAlloc(t, h, "a")
		mustAlloc(t, h, "b")
		mustAlloc(t, h, "c")
		wantFree(t, h, ref(2, 1), true)
		wantFree(t, h, ref(3, 1), true)
		wantAlloc(t, h, "d", ref(3, 2))
		wrong = []api.Ref{{}, ref(0, 1), ref(0, 2), ref(1, 0), ref(1, 2), ref(1, -1), ref(2, 1), ref(2, 2), ref(2, 0), ref(2, 3), ref(3, 1), ref(3, 3), ref(3, 0), ref(4, 1), ref(4, 0), ref(4, 2), ref(-1, 1), ref(1, math.MaxInt), ref(1, math.MinInt), ref(math.MaxInt, 1)}
		wantNothing(t, h, wrong)
		wantCounts(t, h, 3, 1, 2, 1, 2, 2)
		wantValue(t, h, ref(1, 1), "a")
		wantValue(t, h, ref(3, 2), "d")
		wantAlloc(t, h, "e", ref(2, 2))
	}
}

func wantNothing(t *testing.T, h *heap.Heap[string], refs []api.Ref) {
	t.Helper()
	for _, r := range refs {
		wantNone(t, h, r)
		wantFree(t, h, r, false)
	}
}

// P12.5: Gen of a number of which no node was made is 0.
func TestGen(t *testing.T) {
	h := mustNew[int](t, prim.Scripted(), 3)
	for i := range 5 {
		r := mustAlloc(t, h, i)
		wantCounts(t, h, 1, 0, 1, i+1)
		wantFree(t, h, r, true)
		wantCounts(t, h, 1, 1, 0, i+2)
	}
	for _, num := range []int{0, -1, 2, 3, 4, math.MaxInt, math.MinInt} {
		if g := h.Gen(num); g != 0 {
			t.Errorf("Gen of %d: %d", num, g)
		}
	}
}

// P12.6.
func TestNilHeap(t *testing.T) {
	var h *heap.Heap[string]
	wantAlloc(t, h, "x", ref(0, 0))
	wantCounts(t, h, 0, 0, 0)
	for _, r := range []api.Ref{{}, ref(1, 1), ref(-1, 1), ref(math.MaxInt, 1)} {
		wantNone(t, h, r)
		wantFree(t, h, r, false)
		if g := h.Gen(r.Num); g != 0 {
			t.Errorf("Gen of %d: %d", r.Num, g)
		}
	}
}

// P12.4: a freed node has no value: what the value held is let go, though nobody uses the node again.
func TestFreedValues(t *testing.T) {
	for _, w := range []*prim.World{prim.Scripted(), prim.Real()} {
		h := mustNew[*[64]int](t, w, 2)
		v := &[64]int{1}
		seen := weak.Make(v)
		r := mustAlloc(t, h, v)
		runtime.GC()
		if got, ok := h.Get(nil, r); got != v || !ok {
			t.Errorf("%v, %v", got, ok)
		}
		wantFree(t, h, r, true)
		v = nil
		runtime.GC()
		if seen.Value() != nil {
			t.Error("a freed node still holds its value")
		}
		wantNone(t, h, r)
		wantNone(t, h, ref(r.Num, r.Gen+1))
		runtime.KeepAlive(h)
	}
}

// A heap is of any type: nodes of the trie, lists, functions, texts that are empty.
func TestTypes(t *testing.T) {
	w := prim.Scripted()
	nodes := mustNew[api.Node](t, w, 3)
	n := api.Node{Leaf: true, Count: 1, Items: []api.Item{{Key: "k", Version: 3}}, Kids: [16]api.Ref{2: ref(7, 8)}}
	r := mustAlloc(t, nodes, n)
	got, ok := nodes.Get(nil, r)
	if !ok || !got.Leaf || got.Count != 1 || len(got.Items) != 1 || got.Items[0].Key != "k" || got.Kids != n.Kids {
		t.Errorf("%v, %v", got, ok)
	}
	if got, ok = nodes.Get(nil, ref(1, 2)); ok || got.Leaf || got.Count != 0 || got.Items != nil || got.Kids != ([16]api.Ref{}) {
		t.Errorf("%v, %v", got, ok)
	}
	calls := mustNew[func() int](t, w, 3)
	if f, ok := calls.Get(nil, mustAlloc(t, calls, func() int { return 7 })); !ok || f() != 7 {
		t.Errorf("%v", ok)
	}
	anything := mustNew[any](t, w, 3)
	if v, ok := anything.Get(nil, mustAlloc[any](t, anything, nil)); v != nil || !ok {
		t.Errorf("%v, %v", v, ok)
	}
	texts := mustNew[string](t, w, 3)
	wantValue(t, texts, mustAlloc(t, texts, ""), "")
}
