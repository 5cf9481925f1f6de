package heap_test

import (
	"slices"
	"testing"

	"docket/api"
	"docket/heap"
	"docket/prim"
	"docket/sched"
)

// 12.4, example 2, and the steps of each call in each of its cases.
func TestSteps(t *testing.T) {
	h := mustNew[string](t, prim.Scripted(), 2)
	alloc := func(c *sched.Client) { h.Alloc(c, "x") }
	free := func(r api.Ref) client { return func(c *sched.Client) { h.Free(c, r) } }
	get := func(r api.Ref) client { return func(c *sched.Client) { h.Get(c, r) } }

	wantSteps(t, "Get of what was never made", get(ref(1, 1)))
	wantSteps(t, "Free of what was never made", free(ref(1, 1)))
	wantSteps(t, "the first Alloc", alloc, at(kindGet, 0), at(kindSet, 1))
	wantSteps(t, "Get of a live node", get(ref(1, 1)), at(kindGet, 1))
	wantSteps(t, "Get of another generation", get(ref(1, 2)), at(kindGet, 1))
	wantSteps(t, "Get of the next number", get(ref(2, 1)))
	wantSteps(t, "Get of the zero Ref", get(ref(0, 0)))
	wantSteps(t, "the second Alloc", alloc, at(kindGet, 0), at(kindSet, 2))
	wantSteps(t, "Alloc of a full heap", alloc, at(kindGet, 0))
	wantSteps(t, "Free of another generation", free(ref(1, 2)), at(kindGet, 1))
	wantSteps(t, "Free of the zero Ref", free(ref(0, 0)))
	wantSteps(t, "Free of a number below 0", free(ref(-1, 1)))
	wantSteps(t, "Free", free(ref(1, 1)), at(kindGet, 1), at(kindSet, 1), at(kindGet, 0), at(kindSet, 0))
	wantSteps(t, "Free once more", free(ref(1, 1)), at(kindGet, 1))
	wantSteps(t, "Get of a pooled node", get(ref(1, 1)), at(kindGet, 1))
	wantSteps(t, "Get of a pooled node's generation", get(ref(1, 2)), at(kindGet, 1))
	wantSteps(t, "Free of a pooled node's generation", free(ref(1, 2)), at(kindGet, 1))
	wantSteps(t, "Free of the other one", free(ref(2, 1)), at(kindGet, 2), at(kindSet, 2), at(kindGet, 0), at(kindSet, 0))
	wantSteps(t, "Alloc from the pool", alloc, at(kindGet, 0), at(kindSet, 0), at(kindSet, 2))
	wantSteps(t, "Alloc from the pool", alloc, at(kindGet, 0), at(kindSet, 0), at(kindSet, 1))
	wantSteps(t, "Alloc of a full heap", alloc, at(kindGet, 0))
	wantCounts(t, h, 2, 0, 2, 2, 2)
}

// P12.5, P12.6: to look on takes no step, of whatever heap; and a nil one takes none at all.
func TestNoSteps(t *testing.T) {
	h := mustNew[string](t, prim.Scripted(), 2)
	mustAlloc(t, h, "x")
	wantFree(t, h, mustAlloc(t, h, "y"), true)
	var none *heap.Heap[string]
	wantSteps(t, "looking on", func(c *sched.Client) {
		wantCounts(t, h, 2, 1, 1, 1, 2)
		none.Alloc(c, "x")
		none.Get(c, ref(1, 1))
		none.Free(c, ref(1, 1))
		wantCounts(t, none, 0, 0, 0)
	})
}

// In the real world there are no steps, with a client or without one.
func TestNoStepsInTheRealWorld(t *testing.T) {
	h := mustNew[string](t, prim.Real(), 2)
	wantSteps(t, "the real world", func(c *sched.Client) {
		a, e := h.Alloc(c, "a")
		v, ok := h.Get(c, a)
		if a != ref(1, 1) || e != isOK || v != "a" || !ok || !h.Free(c, a) || h.Free(c, a) {
			t.Errorf("%v, %d, %v, %v", a, e, v, ok)
		}
		if r, e := h.Alloc(c, "b"); r != ref(1, 2) || e != isOK {
			t.Errorf("%v, %d", r, e)
		}
	})
	wantCounts(t, h, 1, 0, 1, 2)
}

// The steps bear the heap's own obj.
func TestObj(t *testing.T) {
	for _, of := range []int{0, 6, -3} {
		h, _ := heap.New[int](prim.Scripted(), of, 5)
		got := stepsOf(t, 100, func(c *sched.Client) {
			r, _ := h.Alloc(c, 1)
			h.Free(c, r)
		})
		want := []api.Step{{Kind: kindGet, Obj: of}, {Kind: kindSet, Obj: of, Num: 1}, {Kind: kindGet, Obj: of, Num: 1}, {Kind: kindSet, Obj: of, Num: 1}, {Kind: kindGet, Obj: of}, {Kind: kindSet, Obj: of}}
		if !slices.Equal(got, want) {
			t.Errorf("of %d: %v; want %v", of, got, want)
		}
	}
}

// wantStopped plays a call to its step number picks, where it is stopped, waiting with want.
func wantStopped(t *testing.T, picks int, want api.Step, call client) {
	t.Helper()
	r := mustRun(t, []client{call}, make([]int, picks)...)
	if r.Ends[0] != wasStopped || r.Waits[0] != want || len(r.Events) != picks {
		t.Errorf("behind %d steps: ends %v, waits %v; want %v", picks, r.Ends, r.Waits, want)
	}
}

// P12.2, P12.5: a node is made with the Set of it: one that was stopped ahead of that made none.
func TestMadeWithItsSet(t *testing.T) {
	h := mustNew[string](t, prim.Scripted(), 1)
	for range 3 {
		wantStopped(t, 0, at(kindGet, 0), func(c *sched.Client) { h.Alloc(c, "x") })
		wantStopped(t, 1, at(kindSet, 1), func(c *sched.Client) { h.Alloc(c, "x") })
		wantCounts(t, h, 0, 0, 0)
		wantNone(t, h, ref(1, 1))
		wantFree(t, h, ref(1, 1), false)
		wantSteps(t, "Get of a node that is not made yet", func(c *sched.Client) { h.Get(c, ref(1, 1)) })
	}
	wantAlloc(t, h, "y", ref(1, 1))
	wantValue(t, h, ref(1, 1), "y")
	wantFull(t, h)
}

// P12.3: what others see of an Alloc that makes a node: nothing, until its Set is picked; then the node.
func TestSeenWithItsSet(t *testing.T) {
	h := mustNew[string](t, prim.Scripted(), 9)
	var told []bool
	reader := func(c *sched.Client) {
		for range 3 {
			v, ok := h.Get(c, ref(1, 1))
			if ok != (v == "x") {
				t.Errorf("%q, %v", v, ok)
			}
			told = append(told, ok)
			c.Step(api.Step{}, nil, nil)
		}
	}
	// The reader's first Get finds no node, at the start; so does its second one, behind the Alloc's first step; its third one waits with a step.
	r := mustRun(t, []client{func(c *sched.Client) { h.Alloc(c, "x") }, reader}, 0, 1, 0, 0, 0, 0)
	want := []api.Event{{Client: 0, Step: at(kindGet, 0)}, {Client: 1}, {Client: 0, Step: at(kindSet, 1)}, {Client: 1}, {Client: 1, Step: at(kindGet, 1)}, {Client: 1}}
	if !slices.Equal(r.Events, want) || !slices.Equal(told, []bool{false, false, true}) {
		t.Errorf("%v, told %v; want %v", r.Events, told, want)
	}
}

// P12.5: where an Alloc from the pool was stopped, each of its steps is done or not, by itself.
func TestAllocStopped(t *testing.T) {
	for picks, want := range []struct {
		waits        api.Step
		pooled, live int
	}{{at(kindGet, 0), 2, 1}, {at(kindSet, 0), 2, 1}, {at(kindSet, 3), 1, 2}} {
		h := mustNew[string](t, prim.Scripted(), 3)
		for range 3 {
			mustAlloc(t, h, "x")
		}
		wantFree(t, h, ref(2, 1), true)
		wantFree(t, h, ref(3, 1), true)
		wantStopped(t, picks, want.waits, func(c *sched.Client) { h.Alloc(c, "y") })
		wantCounts(t, h, 3, want.pooled, want.live, 1, 2, 2)
		wantNone(t, h, ref(3, 2))
		if want.pooled == 2 {
			wantAlloc(t, h, "z", ref(3, 2))
		}
		wantAlloc(t, h, "z", ref(2, 2))
		wantFull(t, h)
	}
}

// P12.4, P12.5: where a Free was stopped likewise.
func TestFreeStopped(t *testing.T) {
	for picks, want := range []struct {
		waits             api.Step
		pooled, live, gen int
		there             bool
	}{{at(kindGet, 2), 1, 2, 1, true}, {at(kindSet, 2), 1, 2, 1, true}, {at(kindGet, 0), 1, 2, 2, false}, {at(kindSet, 0), 1, 2, 2, false}} {
		h := mustNew[string](t, prim.Scripted(), 3)
		for range 3 {
			mustAlloc(t, h, "x")
		}
		wantFree(t, h, ref(3, 1), true)
		wantStopped(t, picks, want.waits, func(c *sched.Client) { h.Free(c, ref(2, 1)) })
		wantCounts(t, h, 3, want.pooled, want.live, 1, want.gen, 2)
		if want.there {
			wantValue(t, h, ref(2, 1), "x")
		} else {
			wantNone(t, h, ref(2, 1))
			wantNone(t, h, ref(2, 2))
		}
		wantFree(t, h, ref(2, 1), want.there)
	}
}

// What a stopped client calls, it is stopped at anew: nothing is done.
func TestCallsOfAStoppedClient(t *testing.T) {
	h := mustNew[string](t, prim.Scripted(), 3)
	mustAlloc(t, h, "x")
	body := func(c *sched.Client) {
		defer func() { h.Alloc(c, "z") }()
		defer func() { h.Free(c, ref(1, 1)) }()
		h.Alloc(c, "y")
	}
	if r := mustRun(t, []client{body}, 0); r.Ends[0] != wasStopped || r.Waits[0] != at(kindSet, 2) {
		t.Errorf("%v", r)
	}
	wantCounts(t, h, 1, 0, 1, 1)
	wantValue(t, h, ref(1, 1), "x")
}

// Two that make a node at one time, which none may: by each step it is one node, set twice; and the next number is used behind it.
func TestTwoMakeOneNode(t *testing.T) {
	h := mustNew[string](t, prim.Scripted(), 2)
	var told [2]api.Ref
	var saw [2]string
	body := func(c *sched.Client) {
		r, _ := h.Alloc(c, string(rune('a'+c.Number())))
		told[c.Number()] = r
		saw[c.Number()], _ = h.Get(c, r)
	}
	r := mustRun(t, []client{body, body}, 0, 1, 0, 0, 1, 1)
	want := []api.Event{{Client: 0, Step: at(kindGet, 0)}, {Client: 1, Step: at(kindGet, 0)}, {Client: 0, Step: at(kindSet, 1)}, {Client: 0, Step: at(kindGet, 1)}, {Client: 1, Step: at(kindSet, 1)}, {Client: 1, Step: at(kindGet, 1)}}
	if !slices.Equal(r.Events, want) {
		t.Errorf("%v; want %v", r.Events, want)
	}
	if told != [2]api.Ref{ref(1, 1), ref(1, 1)} || saw != [2]string{"a", "b"} {
		t.Errorf("told %v, saw %v", told, saw)
	}
	wantCounts(t, h, 1, 0, 1, 1)
	wantAlloc(t, h, "c", ref(2, 1))
	wantValue(t, h, ref(1, 1), "b")
	wantFull(t, h)
}

// Two that free at one time, which none may: what one has got of the pool stays as it was, whatever the other lays into it.
func TestTwoPools(t *testing.T) {
	h := mustNew[string](t, prim.Scripted(), 9)
	for range 5 {
		mustAlloc(t, h, "x")
	}
	wantFree(t, h, ref(5, 1), true)
	var taken api.Ref
	first := func(c *sched.Client) { h.Free(c, ref(1, 1)) }
	second := func(c *sched.Client) { h.Free(c, ref(2, 1)) }
	third := func(c *sched.Client) { taken, _ = h.Alloc(c, "y") }
	// Both have got the pool; the first sets it, the third takes from what it set; the second sets its own.
	r := mustRun(t, []client{first, second, third}, 0, 0, 0, 1, 1, 1, 0, 1, 1, 1, 0)
	if !slices.Equal(r.Ends, []int{hasEnded, hasEnded, hasEnded}) || taken != ref(1, 2) {
		t.Errorf("%v, taken %v", r, taken)
	}
	wantCounts(t, h, 5, 2, 3, 2, 2, 1, 1, 2)
	wantAlloc(t, h, "z", ref(2, 2))
	wantAlloc(t, h, "z", ref(5, 2))
	wantAlloc(t, h, "z", ref(6, 1))
}
