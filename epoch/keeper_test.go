package epoch_test

import (
	"math"
	"slices"
	"testing"

	"docket/api"
	"docket/epoch"
	"docket/prim"
	"docket/sched"
)

func worlds() []*prim.World { return []*prim.World{prim.Scripted(), prim.Real(), nil} }

// P14.1: slots is 1 to MaxSlots, and there is a heap; nothing else is asked.
func TestNew(t *testing.T) {
	for _, w := range worlds() {
		h := mustHeap[string](t, w, 1)
		for _, slots := range []int{0, -1, -maxSlots, maxSlots + 1, maxSlots + 2, math.MaxInt, math.MinInt} {
			if k, e := epoch.New(w, keeperObj, h, slots, root{}); k != nil || e != isArg {
				t.Errorf("%d slots: %v, %d", slots, k, e)
			}
		}
		for _, slots := range []int{0, 1, 2, maxSlots, maxSlots + 1} {
			if k, e := epoch.New[root, string](w, keeperObj, nil, slots, root{}); k != nil || e != isArg {
				t.Errorf("no heap, %d slots: %v, %d", slots, k, e)
			}
		}
		for _, slots := range []int{1, 2, maxSlots - 1, maxSlots} {
			for _, obj := range []int{0, keeperObj, -7, math.MaxInt, math.MinInt} {
				k, e := epoch.New(w, obj, h, slots, root{stamp: 8})
				if k == nil || e != isOK {
					t.Fatalf("%d slots of %d: %v, %d", slots, obj, k, e)
				}
				wantPins(t, k, make([]int64, slots)...)
				wantPass(t, k, 0, 0)
				if r := k.Root(nil); r.stamp != 8 {
					t.Errorf("the first root is %v", r)
				}
			}
		}
	}
}

// 14.4, example 1.
func TestStays(t *testing.T) {
	for _, w := range worlds() {
		h, k := made(t, w, 3, 2)
		if r := k.Pin(nil, 0); r.stamp != 5 || !slices.Equal(r.nodes, firsts(1, 2)) {
			t.Errorf("Pin: %v", r)
		}
		wantPins(t, k, 6, 0)
		wantPublish(t, k, 6, firsts(1), 0, 1)
		wantHave(t, h, 1, 2, 3)
		wantPass(t, k, 0, 1)
		k.Unpin(nil, 0)
		wantPins(t, k, 0, 0)
		wantHave(t, h, 1, 2, 3)
		wantPass(t, k, 1, 0)
		wantHave(t, h, 2, 3)
		wantPass(t, k, 0, 0)
	}
}

// Example 2: a pin that is set behind the Publish does not hold what it retired.
func TestGoes(t *testing.T) {
	for _, w := range worlds() {
		h, k := made(t, w, 3, 2)
		k.Pin(nil, 0)
		wantPublish(t, k, 6, firsts(1), 0, 1)
		k.Pin(nil, 1)
		wantPins(t, k, 6, 7)
		wantPass(t, k, 0, 1)
		k.Unpin(nil, 0)
		wantPins(t, k, 0, 7)
		wantPass(t, k, 1, 0)
		wantHave(t, h, 2, 3)
		wantPublish(t, k, 7, firsts(2), 0, 1)
		wantHave(t, h, 2, 3)
	}
}

// P14.2: the root that was published last, whatever its stamp.
func TestRoot(t *testing.T) {
	for _, w := range worlds() {
		_, k := made(t, w, 0, 1)
		if r := k.Root(nil); r.stamp != 5 || !slices.Equal(r.nodes, firsts(1, 2)) {
			t.Errorf("at first: %v", r)
		}
		for _, s := range []int64{6, 6, 3, -1, maxStamp, 0, math.MaxInt64, math.MinInt64} {
			k.Publish(nil, root{s, firsts(int(s % 100))}, nil)
			for range 2 {
				if r := k.Root(nil); r.stamp != s || !slices.Equal(r.nodes, firsts(int(s%100))) {
					t.Errorf("behind the Publish of %d: %v", s, r)
				}
			}
		}
	}
}

// P14.3: each slot has a pin of its own, which is set anew by another Pin, and stays what it is when roots are published.
func TestPin(t *testing.T) {
	for _, w := range worlds() {
		_, k := made(t, w, 0, 3)
		want := func(slot int, stamp int64, pins ...int64) {
			t.Helper()
			if r := k.Pin(nil, slot); r.stamp != stamp {
				t.Errorf("Pin: %v; want %d", r, stamp)
			}
			wantPins(t, k, pins...)
		}
		want(2, 5, 0, 0, 6)
		wantPublish(t, k, 8, nil, 0, 0)
		wantPins(t, k, 0, 0, 6)
		want(0, 8, 9, 0, 6)
		want(0, 8, 9, 0, 6)
		wantPublish(t, k, 9, nil, 0, 0)
		want(2, 9, 9, 0, 10)
		k.Unpin(nil, 0)
		wantPins(t, k, 0, 0, 10)
		k.Unpin(nil, 0)
		k.Unpin(nil, 1)
		wantPins(t, k, 0, 0, 10)
		want(1, 9, 0, 10, 10)
		k.Unpin(nil, 2)
		wantPins(t, k, 0, 10, 0)
	}
}

// P14.3: of a slot that there is not.
func TestNoSlot(t *testing.T) {
	for _, w := range worlds() {
		for _, slots := range []int{1, 2, maxSlots} {
			_, k := made(t, w, 0, slots)
			pins := make([]int64, slots)
			k.Pin(nil, slots-1)
			pins[slots-1] = 6
			for _, slot := range []int{-1, slots, slots + 1, -slots, maxSlots, 1000000, math.MaxInt, math.MinInt} {
				if r := k.Pin(nil, slot); r.stamp != 5 {
					t.Errorf("Pin of the slot %d: %v", slot, r)
				}
				k.Unpin(nil, slot)
				wantPins(t, k, pins...)
			}
		}
	}
}

// P14.4: what Publish answers: of how many Free was true, be it that some are named twice, or are none.
func TestFreed(t *testing.T) {
	for _, w := range worlds() {
		h, k := made(t, w, 9, 1)
		wantPublish(t, k, 6, firsts(1, 2, 3), 3, 0)
		wantPublish(t, k, 7, firsts(1, 2, 3), 0, 0)
		wantPublish(t, k, 8, firsts(4, 4, 5, 4), 2, 0)
		wantPublish(t, k, 9, []api.Ref{{}, ref(-1, 1), ref(10, 1), ref(6, 2), ref(6, 0), ref(1, 2), ref(math.MaxInt, 1), ref(math.MinInt, math.MinInt)}, 0, 0)
		wantHave(t, h, 6, 7, 8, 9)
		k.Pin(nil, 0)
		wantPublish(t, k, 10, append(firsts(6, 1, 6), ref(77, 1)), 0, 4)
		wantPublish(t, k, 11, []api.Ref{}, 0, 4)
		wantPublish(t, k, 12, firsts(6, 7), 0, 6)
		wantHave(t, h, 6, 7, 8, 9)
		k.Unpin(nil, 0)
		wantPublish(t, k, 13, firsts(8), 3, 0)
		wantHave(t, h, 9)
	}
}

// P14.5: each pin holds what was retired with its own stamp or a later one; those that are 0 hold nothing.
func TestFreeToGo(t *testing.T) {
	// Of the nodes 1 to 6, number i was retired with the stamp 10 + i.
	for _, x := range []struct {
		pins []int64
		left []int
	}{
		{[]int64{0, 0, 0}, nil},
		{[]int64{0, 0, 11}, []int{1, 2, 3, 4, 5, 6}},
		{[]int64{12, 0, 0}, []int{2, 3, 4, 5, 6}},
		{[]int64{0, 13, 0}, []int{3, 4, 5, 6}},
		{[]int64{0, 0, 16}, []int{6}},
		{[]int64{0, 0, 17}, nil},
		{[]int64{18, 17, 99}, nil},
		{[]int64{17, 16, 99}, []int{6}},
		{[]int64{14, 13, 15}, []int{3, 4, 5, 6}},
		{[]int64{13, 14, 15}, []int{3, 4, 5, 6}},
		{[]int64{15, 14, 13}, []int{3, 4, 5, 6}},
		{[]int64{maxStamp + 1, 0, 12}, []int{2, 3, 4, 5, 6}},
		{[]int64{-5, 0, 99}, []int{1, 2, 3, 4, 5, 6}},
		{[]int64{1, 1, 1}, []int{1, 2, 3, 4, 5, 6}},
		{[]int64{math.MinInt64, 0, 0}, []int{1, 2, 3, 4, 5, 6}},
		{[]int64{math.MaxInt64, math.MaxInt64, 0}, nil},
	} {
		for _, w := range worlds() {
			h, k := made(t, w, 6, 4)
			k.Pin(nil, 3) // it holds all of them, until the others are set
			for i := range 6 {
				wantPublish(t, k, int64(11+i), firsts(i+1), 0, i+1)
			}
			for slot, pin := range x.pins {
				if pin != 0 {
					wantPublish(t, k, pin-1, nil, 0, 6)
					k.Pin(nil, slot)
				}
			}
			k.Unpin(nil, 3)
			wantPins(t, k, append(x.pins, 0)...)
			wantPass(t, k, 6-len(x.left), len(x.left))
			wantHave(t, h, x.left...)
			wantPass(t, k, 0, len(x.left))
			for slot := range x.pins {
				k.Unpin(nil, slot)
			}
			wantPass(t, k, len(x.left), 0)
			wantHave(t, h)
		}
	}
}

// P14.5: stamps need not rise: each node goes by its own, and those that stay keep their order.
func TestStampsThatFall(t *testing.T) {
	for _, w := range worlds() {
		h, k := made(t, w, 8, 2)
		wantPublish(t, k, -9, nil, 0, 0)
		k.Pin(nil, 0)
		for i, s := range []int64{9, 2, 7, 2, 8, 1, 9} {
			wantPublish(t, k, s, firsts(i+1), 0, i+1)
		}
		wantPublish(t, k, 6, nil, 0, 7)
		k.Pin(nil, 1)
		k.Unpin(nil, 0)
		wantPins(t, k, 0, 7)
		wantPass(t, k, 3, 4)
		wantHave(t, h, 1, 3, 5, 7, 8)
		wantPublish(t, k, 7, firsts(8), 0, 5)
		k.Pin(nil, 0)
		k.Unpin(nil, 1)
		wantPins(t, k, 8, 0)
		wantPass(t, k, 2, 3)
		wantHave(t, h, 1, 5, 7)
		k.Unpin(nil, 0)
		wantPass(t, k, 3, 0)
		// The node that was freed last is used first: they went by the list's order.
		for _, num := range []int{7, 5, 1, 8, 3, 6, 4, 2} {
			if r := mustAlloc(t, h, nil, "x"); r != ref(num, 2) {
				t.Errorf("%v; want node %d", r, num)
			}
		}
	}
}

// Sums of stamps are modulo 2^64: the pin of the stamp -1 is none, and what was retired with the greatest goes whatever is pinned.
func TestSums(t *testing.T) {
	for _, w := range worlds() {
		h, k := made(t, w, 9, 2)
		pin := func(slot int, stamp, want int64) {
			t.Helper()
			k.Publish(nil, root{stamp: stamp}, nil)
			if r := k.Pin(nil, slot); r.stamp != stamp || k.Pins()[slot] != want {
				t.Errorf("the pin of %d: %v, %v; want %d", stamp, r, k.Pins(), want)
			}
		}
		pin(0, maxStamp, maxStamp+1)
		pin(0, 0, 1)
		pin(0, -2, -1)
		pin(0, math.MaxInt64-1, math.MaxInt64)
		pin(0, math.MinInt64, math.MinInt64+1)
		wantPublish(t, k, -3, firsts(1), 0, 1)
		wantPublish(t, k, math.MaxInt64-1, firsts(2), 0, 2)
		wantPublish(t, k, math.MaxInt64, firsts(3), 1, 2)
		wantPublish(t, k, math.MinInt64, firsts(4), 1, 2) // its pin would be the same: it does not hold it
		wantHave(t, h, 1, 2, 5, 6, 7, 8, 9)
		pin(1, math.MaxInt64, math.MinInt64)
		wantPublish(t, k, math.MinInt64, firsts(5), 0, 3)
		wantPublish(t, k, math.MaxInt64, firsts(6), 1, 3)
		wantHave(t, h, 1, 2, 5, 7, 8, 9)
		pin(0, -1, 0)
		pin(1, -1, 0)
		wantHave(t, h, 1, 2, 5, 7, 8, 9)
		wantPass(t, k, 3, 0)
		pin(0, maxStamp-1, maxStamp)
		wantPublish(t, k, maxStamp, firsts(7), 0, 1)
		pin(0, maxStamp, maxStamp+1)
		wantRetired(t, k, 1)
		wantPass(t, k, 1, 0)
		wantHave(t, h, 8, 9)
	}
}

// P14.6: on a nil Keeper.
func TestNilKeeper(t *testing.T) {
	var k *keeper
	wantSteps(t, "a nil Keeper", func(c *sched.Client) {
		for _, c := range []*sched.Client{c, nil} {
			for _, slot := range []int{-1, 0, 1, math.MaxInt} {
				if r := k.Pin(c, slot); r.stamp != 0 || r.nodes != nil {
					t.Errorf("Pin: %v", r)
				}
				k.Unpin(c, slot)
			}
			if r := k.Root(c); r.stamp != 0 || r.nodes != nil {
				t.Errorf("Root: %v", r)
			}
			if n := k.Publish(c, root{7, firsts(1)}, firsts(1, 2)); n != 0 {
				t.Errorf("Publish: %d", n)
			}
			if n := k.Pass(c); n != 0 {
				t.Errorf("Pass: %d", n)
			}
			wantPins(t, k)
			wantRetired(t, k, 0)
		}
	})
	var any *epoch.Keeper[epoch.Stamped, int]
	if any.Root(nil) != nil || any.Pin(nil, 0) != nil || any.Publish(nil, nil, nil) != 0 {
		t.Error("the zero value of an interface is nil")
	}
}

// Rule 3: what is handed in is neither changed nor kept, its spare room neither.
func TestRetiredIsNotKept(t *testing.T) {
	for _, w := range worlds() {
		h, k := made(t, w, 9, 1)
		k.Pin(nil, 0)
		all := firsts(1, 2, 3, 4, 5)
		wantPublish(t, k, 6, all[:2], 0, 2)
		wantPublish(t, k, 7, all[1:3], 0, 4)
		if !slices.Equal(all, firsts(1, 2, 3, 4, 5)) {
			t.Errorf("changed: %v", all)
		}
		for i := range all {
			all[i] = ref(i+5, 1)
		}
		k.Unpin(nil, 0)
		wantPass(t, k, 3, 0)
		wantHave(t, h, 4, 5, 6, 7, 8, 9)
		if !slices.Equal(all, firsts(5, 6, 7, 8, 9)) {
			t.Errorf("changed: %v", all)
		}
	}
}

// Rule 4: what is handed in counts as it is when the call begins, though others go on while its steps wait.
func TestRetiredIsLookedAtFirst(t *testing.T) {
	h, k := made(t, prim.Scripted(), 9, 1)
	all := firsts(1, 2)
	writer := func(c *sched.Client) {
		if n := k.Publish(c, root{stamp: 6}, all); n != 2 {
			t.Errorf("%d freed", n)
		}
	}
	mustRun(t, []client{writer, func(*sched.Client) { all[0], all[1] = ref(3, 1), ref(4, 1) }}, make([]int, 100)...)
	wantHave(t, h, 3, 4, 5, 6, 7, 8, 9)
}

// Rule 3: the pins that are told are new each time.
func TestPinsAreNew(t *testing.T) {
	for _, w := range worlds() {
		_, k := made(t, w, 2, 3)
		k.Pin(nil, 1)
		first := k.Pins()
		for i := range first[:cap(first)] {
			first[:cap(first)][i] = 99
		}
		wantPins(t, k, 0, 6, 0)
		second := k.Pins()
		k.Unpin(nil, 1)
		if !slices.Equal(second, []int64{0, 6, 0}) {
			t.Errorf("%v: the pins as they were when they were asked for", second)
		}
	}
}

// P14.1: keepers have nothing to do with one another, be it that they are of one world, obj and heap.
func TestKeepersApart(t *testing.T) {
	w := prim.Scripted()
	h, one := made(t, w, 6, 2)
	two := mustKeep(t, w, h, 2, root{stamp: 1})
	one.Pin(nil, 0)
	wantPins(t, two, 0, 0)
	wantPublish(t, one, 6, firsts(1), 0, 1)
	wantRetired(t, two, 0)
	wantPublish(t, two, 2, firsts(2), 1, 0)
	wantPublish(t, two, 3, firsts(1), 1, 0)
	wantRetired(t, one, 1)
	if one.Root(nil).stamp != 6 || two.Root(nil).stamp != 3 {
		t.Errorf("roots %v, %v", one.Root(nil), two.Root(nil))
	}
	one.Unpin(nil, 0)
	wantPass(t, one, 0, 0) // what the other has freed is not there
	wantHave(t, h, 3, 4, 5, 6)
}

// behindPointer is a root that is told by a pointer to it alone.
type behindPointer struct{ stamp int64 }

func (r *behindPointer) Stamp() int64 { return r.stamp }

// R is any type that tells its stamp: roots are handed on as they are.
func TestTypesOfRoots(t *testing.T) {
	h := mustHeap[int](t, nil, 9)
	one, two := &behindPointer{1}, &behindPointer{2}
	k := mustKeep(t, nil, h, 1, one)
	if k.Pin(nil, 0) != one || k.Publish(nil, two, nil) != 0 || k.Root(nil) != two {
		t.Error("not the very roots")
	}
	wantPins(t, k, 2)
	any := mustKeep[epoch.Stamped](t, nil, h, 1, one)
	if any.Pin(nil, 0) != epoch.Stamped(one) || any.Publish(nil, root{stamp: 7}, nil) != 0 || any.Pin(nil, 0).Stamp() != 7 {
		t.Error("roots of unlike types behind an interface")
	}
	wantPins(t, any, 8)
}

// Rule 1: no call panics, be it that a root cannot tell its stamp: it counts as 0.
func TestRootsWithoutStamps(t *testing.T) {
	for _, w := range worlds() {
		h := mustHeap[int](t, w, 9)
		for range 4 {
			mustAlloc(t, h, nil, 0)
		}
		k := mustKeep[epoch.Stamped](t, w, h, 2, nil)
		if r := k.Pin(nil, 0); r != nil {
			t.Errorf("Pin: %v", r)
		}
		wantPins(t, k, 1, 0)
		publish := func(r epoch.Stamped, retired []api.Ref, freed, left int) {
			t.Helper()
			if n := k.Publish(nil, r, retired); n != freed {
				t.Errorf("Publish of %v: %d freed; want %d", r, n, freed)
			}
			wantRetired(t, k, left)
		}
		var none *behindPointer
		publish(none, firsts(1), 1, 0)
		publish(root{stamp: 1}, firsts(2), 0, 1)
		publish(nil, firsts(3), 1, 1)
		wantHave(t, h, 2, 4)
		if r := k.Pin(nil, 1); r != nil {
			t.Errorf("Pin: %v", r)
		}
		wantPins(t, k, 1, 1)
		publish(nil, nil, 0, 1)
		k.Unpin(nil, 0)
		k.Unpin(nil, 1)
		wantPass(t, k, 1, 0)
		wantHave(t, h, 4)
	}
}
