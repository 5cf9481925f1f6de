package epoch_test

import (
	"math"
	"slices"
	"testing"

	"docket/api"
	"docket/epoch"
	"docket/heap"
	"docket/prim"
	"docket/sched"
)

// P14.2 to P14.5: the steps of each call in each of its cases, with examples 3 and 4.
func TestSteps(t *testing.T) {
	_, k := made(t, prim.Scripted(), 9, 2)
	pin := func(slot int) client { return func(c *sched.Client) { k.Pin(c, slot) } }
	unpin := func(slot int) client { return func(c *sched.Client) { k.Unpin(c, slot) } }
	publish := func(stamp int64, retired ...api.Ref) client {
		return func(c *sched.Client) { k.Publish(c, root{stamp: stamp}, retired) }
	}
	pass := func(c *sched.Client) { k.Pass(c) }
	store, get, set := at(kindStore, 0), at(kindGet, 3), at(kindSet, 3)
	first, second := at(kindLoad, 1), at(kindLoad, 2)

	wantSteps(t, "Root", func(c *sched.Client) { k.Root(c) }, at(kindLoad, 0))
	wantSteps(t, "Unpin of what is not pinned", unpin(1), at(kindStore, 2))
	wantSteps(t, "Pass over nothing", pass, get)
	wantSteps(t, "Publish that retires nothing, with an empty list", publish(6), store, get)
	wantSteps(t, "Publish that retires one and frees it", publish(7, firsts(1)...), slices.Concat([]api.Step{store, get, set, first, second, set}, freeOf(1))...)
	wantSteps(t, "Pin", pin(0), at(kindLoad, 0), at(kindStore, 1), at(kindLoad, 0))
	wantSteps(t, "Pin of the other slot", pin(1), at(kindLoad, 0), at(kindStore, 2), at(kindLoad, 0))
	wantSteps(t, "Pin once more", pin(1), at(kindLoad, 0), at(kindStore, 2), at(kindLoad, 0))
	for _, slot := range []int{-1, 2, 3, math.MaxInt, math.MinInt} {
		wantSteps(t, "Pin of a slot that there is not", pin(slot), at(kindLoad, 0))
		wantSteps(t, "Unpin of a slot that there is not", unpin(slot))
	}
	wantSteps(t, "Publish that retires two and frees none", publish(8, firsts(2, 3)...), store, get, set, first, second)
	wantSteps(t, "Pass that frees none", pass, get, first, second)
	wantSteps(t, "Publish that retires nothing and frees none", publish(9), store, get, first, second)
	wantSteps(t, "Unpin", unpin(0), at(kindStore, 1))
	wantSteps(t, "Pass that is held by the other slot", pass, get, first, second)
	wantSteps(t, "Pin behind them", pin(1), at(kindLoad, 0), at(kindStore, 2), at(kindLoad, 0))
	wantSteps(t, "Publish that frees what others retired", publish(10, ref(4, 1)), slices.Concat([]api.Step{store, get, set, first, second, set}, freeOf(2), freeOf(3))...)
	wantSteps(t, "Unpin", unpin(1), at(kindStore, 2))
	wantSteps(t, "Pass that frees one", pass, slices.Concat([]api.Step{get, first, second, set}, freeOf(4))...)
	wantSteps(t, "Publish of Refs that name nothing", publish(11, ref(0, 0), ref(10, 1), ref(-1, 1)), store, get, set, first, second, set)
	wantSteps(t, "Publish of what was freed, and one twice", publish(12, ref(4, 1), ref(5, 1), ref(5, 1)),
		slices.Concat([]api.Step{store, get, set, first, second, set, in(kindGet, 4)}, freeOf(5), []api.Step{in(kindGet, 5)})...)
	wantPins(t, k, 0, 0)
	wantRetired(t, k, 0)
}

// P14.5: the steps of Frees come in the list's order, over what several Publishes retired.
func TestOrderOfFrees(t *testing.T) {
	_, k := made(t, prim.Scripted(), 9, 1)
	k.Pin(nil, 0)
	wantPublish(t, k, 6, firsts(7, 3), 0, 2)
	wantPublish(t, k, 7, firsts(9), 0, 3)
	wantPublish(t, k, 8, firsts(1, 8), 0, 5)
	k.Unpin(nil, 0)
	wantSteps(t, "Publish", func(c *sched.Client) {
		if n := k.Publish(c, root{stamp: 9}, firsts(2)); n != 6 {
			t.Errorf("%d freed", n)
		}
	}, slices.Concat([]api.Step{at(kindStore, 0), at(kindGet, 2), at(kindSet, 2), at(kindLoad, 1), at(kindSet, 2)}, freeOf(7), freeOf(3), freeOf(9), freeOf(1), freeOf(8), freeOf(2))...)
}

// 14.1: the nums of the things, and that the steps bear the keeper's own obj.
func TestNums(t *testing.T) {
	for _, obj := range []int{0, 7, -3} {
		for _, slots := range []int{1, 2, 80, maxSlots} {
			w := prim.Scripted()
			h := mustHeap[string](t, w, 9)
			mustAlloc(t, h, nil, "x")
			k, _ := epoch.New(w, obj, h, slots, root{})
			step := func(kind, num int) api.Step { return api.Step{Kind: kind, Obj: obj, Num: num} }
			want := []api.Step{step(kindLoad, 0)}
			for slot := range slots {
				want = append(want, step(kindLoad, 0), step(kindStore, slot+1), step(kindLoad, 0), step(kindStore, slot+1))
			}
			want = append(want, step(kindStore, 0), step(kindGet, slots+1), step(kindSet, slots+1))
			for slot := range slots {
				want = append(want, step(kindLoad, slot+1))
			}
			want = append(append(want, step(kindSet, slots+1)), freeOf(1)...)
			want = append(want, step(kindGet, slots+1))
			wantSteps(t, "all of them", func(c *sched.Client) {
				k.Root(c)
				for slot := range slots {
					k.Pin(c, slot)
					k.Unpin(c, slot)
				}
				k.Publish(c, root{stamp: 1}, firsts(1))
				k.Pass(c)
			}, want...)
		}
	}
}

// P14.6: to look on takes no step.
func TestNoSteps(t *testing.T) {
	_, k := made(t, prim.Scripted(), 3, 2)
	k.Pin(nil, 1)
	wantPublish(t, k, 6, firsts(1), 0, 1)
	wantSteps(t, "looking on", func(*sched.Client) {
		wantPins(t, k, 0, 6)
		wantRetired(t, k, 1)
	})
}

// In the real world there are no steps, with a client or without one.
func TestNoStepsInTheRealWorld(t *testing.T) {
	h, k := made(t, prim.Real(), 3, 2)
	wantSteps(t, "the real world", func(c *sched.Client) {
		if r := k.Pin(c, 0); r.stamp != 5 {
			t.Errorf("%v", r)
		}
		if n := k.Publish(c, root{stamp: 6}, firsts(1)); n != 0 {
			t.Errorf("%d freed", n)
		}
		k.Unpin(c, 0)
		if n := k.Pass(c); n != 1 {
			t.Errorf("%d freed", n)
		}
		if r := k.Root(c); r.stamp != 6 {
			t.Errorf("%v", r)
		}
	})
	wantHave(t, h, 2, 3)
}

// A keeper of one world over a heap of another: each takes its own steps.
func TestMixedWorlds(t *testing.T) {
	for _, real := range []bool{true, false} {
		w, other := prim.Scripted(), prim.Real()
		want := []api.Step{at(kindStore, 0), at(kindGet, 2), at(kindSet, 2), at(kindLoad, 1), at(kindSet, 2)}
		if real {
			w, other, want = other, w, freeOf(1)
		}
		h := mustHeap[string](t, other, 3)
		mustAlloc(t, h, nil, "x")
		k := mustKeep(t, w, h, 1, root{})
		wantSteps(t, "mixed", func(c *sched.Client) { k.Publish(c, root{stamp: 1}, firsts(1)) }, want...)
		wantHave(t, h)
	}
}

// wantStopped plays a call to its step number picks, where it is stopped, waiting with want.
func wantStopped(t *testing.T, picks int, want api.Step, call client) {
	t.Helper()
	r := mustRun(t, []client{call}, make([]int, picks)...)
	if r.Ends[0] != wasStopped || r.Waits[0] != want || len(r.Events) != picks {
		t.Errorf("behind %d steps: ends %v, waits %v; want %v", picks, r.Ends, r.Waits, want)
	}
}

// P14.3: a Pin that was stopped has set its pin, or not, by its second step alone.
func TestPinStopped(t *testing.T) {
	for picks, x := range []struct {
		waits api.Step
		pin   int64
	}{{at(kindLoad, 0), 0}, {at(kindStore, 1), 0}, {at(kindLoad, 0), 6}} {
		_, k := made(t, prim.Scripted(), 2, 1)
		wantStopped(t, picks, x.waits, func(c *sched.Client) { k.Pin(c, 0) })
		wantPins(t, k, x.pin)
		k.Pin(nil, 0)
		wantStopped(t, 0, at(kindStore, 1), func(c *sched.Client) { k.Unpin(c, 0) })
		wantPins(t, k, 6)
	}
}

// P14.4, P14.5: a Publish that was stopped, each of its steps done or not, by itself. Node 1 is in the list; 2 and 3 are retired.
func TestPublishStopped(t *testing.T) {
	for picks, x := range []struct {
		waits   api.Step
		stamp   int64
		retired int
		have    []int
	}{
		{at(kindStore, 0), 6, 1, []int{1, 2, 3, 4}},
		{at(kindGet, 2), 7, 1, []int{1, 2, 3, 4}},
		{at(kindSet, 2), 7, 1, []int{1, 2, 3, 4}},
		{at(kindLoad, 1), 7, 3, []int{1, 2, 3, 4}},
		{at(kindSet, 2), 7, 3, []int{1, 2, 3, 4}},
		{in(kindGet, 1), 7, 0, []int{1, 2, 3, 4}},
		{in(kindSet, 1), 7, 0, []int{1, 2, 3, 4}},
		{in(kindGet, 0), 7, 0, []int{2, 3, 4}},
		{in(kindSet, 0), 7, 0, []int{2, 3, 4}},
		{in(kindGet, 2), 7, 0, []int{2, 3, 4}},
		{in(kindSet, 2), 7, 0, []int{2, 3, 4}},
		{in(kindGet, 0), 7, 0, []int{3, 4}},
	} {
		h, k := made(t, prim.Scripted(), 4, 1)
		k.Pin(nil, 0)
		wantPublish(t, k, 6, firsts(1), 0, 1)
		k.Unpin(nil, 0)
		wantStopped(t, picks, x.waits, func(c *sched.Client) { k.Publish(c, root{stamp: 7}, firsts(2, 3)) })
		if r := k.Root(nil); r.stamp != x.stamp {
			t.Errorf("behind %d steps: the root %v; want %d", picks, r, x.stamp)
		}
		wantRetired(t, k, x.retired)
		wantHave(t, h, x.have...)
		wantPass(t, k, x.retired, 0)
	}
}

// What a stopped client calls, it is stopped at anew: nothing is done.
func TestCallsOfAStoppedClient(t *testing.T) {
	h, k := made(t, prim.Scripted(), 4, 2)
	body := func(c *sched.Client) {
		defer func() { k.Pass(c) }()
		defer func() { k.Publish(c, root{stamp: 9}, firsts(1)) }()
		defer func() { k.Pin(c, 1) }()
		defer func() { k.Unpin(c, 0) }()
		k.Pin(c, 0)
	}
	if r := mustRun(t, []client{body}, 0, 0); r.Ends[0] != wasStopped || r.Waits[0] != at(kindLoad, 0) {
		t.Errorf("%v", r)
	}
	wantPins(t, k, 6, 0)
	wantRetired(t, k, 0)
	wantHave(t, h, 1, 2, 3, 4)
	if r := k.Root(nil); r.stamp != 5 {
		t.Errorf("%v", r)
	}
}

// stepping is a root that takes a step to tell its stamp, which none need be: where its client is stopped there, nothing of the call is done.
type stepping struct{ c *sched.Client }

func (r stepping) Stamp() int64 {
	r.c.Step(api.Step{Kind: 77}, nil, nil)
	return 8
}

func TestStoppedWithinStamp(t *testing.T) {
	w := prim.Scripted()
	h := mustHeap[string](t, w, 3)
	mustAlloc(t, h, nil, "x")
	k := mustKeep(t, w, h, 1, stepping{})
	wantStopped(t, 0, api.Step{Kind: 77}, func(c *sched.Client) { k.Publish(c, stepping{c}, firsts(1)) })
	wantRetired(t, k, 0)
	wantPins(t, k, 0)
	var told int
	r := mustRun(t, []client{func(c *sched.Client) { told = k.Publish(c, stepping{c}, firsts(1)) }}, make([]int, 99)...)
	if r.Ends[0] != hasEnded || told != 1 {
		t.Errorf("%v, %d freed", r, told)
	}
	wantSteps(t, "Pin", func(c *sched.Client) {
		k.Publish(nil, stepping{c}, nil)
		k.Pin(c, 0)
	}, at(kindLoad, 0), api.Step{Kind: 77}, at(kindStore, 1), at(kindLoad, 0))
	wantPins(t, k, 9)
}

// Two that publish at one time, which none may: by each step, what one has got of the list stays as it was, whatever the other lays into it.
func TestTwoLists(t *testing.T) {
	h, k := made(t, prim.Scripted(), 9, 1)
	k.Pin(nil, 0)
	wantPublish(t, k, 6, firsts(1), 0, 1)
	publish := func(stamp int64, num int) client {
		return func(c *sched.Client) { k.Publish(c, root{stamp: stamp}, firsts(num)) }
	}
	// Both have got the list of node 1; the first sets it, then the second sets its own.
	r := mustRun(t, []client{publish(7, 2), publish(8, 3)}, 0, 0, 1, 1, 0, 0, 0, 0, 0)
	if !slices.Equal(r.Ends, []int{hasEnded, hasEnded}) {
		t.Errorf("%v", r)
	}
	wantRetired(t, k, 2)
	k.Unpin(nil, 0)
	wantPass(t, k, 2, 0)
	wantHave(t, h, 2, 4, 5, 6, 7, 8, 9)
}

// The heap's own type has no part in it.
func TestAnyHeap(t *testing.T) {
	w := prim.Scripted()
	keepsAny(t, w, func() {})
	keepsAny[any](t, w, nil)
	keepsAny(t, w, api.Node{Items: []api.Item{{Key: "k"}}})
}

func keepsAny[T any](t *testing.T, w *prim.World, v T) {
	t.Helper()
	h, _ := heap.New[T](w, heapObj, 2)
	r := mustAlloc(t, h, nil, v)
	k := mustKeep(t, w, h, 1, root{})
	if n := k.Publish(nil, root{stamp: 1}, []api.Ref{r}); n != 1 || h.Live() != 0 {
		t.Errorf("%d freed, %d live", n, h.Live())
	}
}
