package epoch_test

import (
	"math/rand"
	"slices"
	"testing"

	"docket/api"
	"docket/epoch"
	"docket/heap"
	"docket/prim"
	"docket/sched"
)

// The kinds as chapter 10 numbers them, so that a test does not follow a number that another one stands for.
const (
	kindLoad  = 5
	kindStore = 6
	kindGet   = 8
	kindSet   = 9
)

// How a client ends, as chapter 9 numbers it.
const (
	wasStopped  = 0
	hasEnded    = 1
	hasPanicked = 2
)

// The limits and the errors as the document numbers them.
const (
	maxSlots = 256
	maxStamp = 1 << 62
	isOK     = 0
	isArg    = 2
)

// The objs of the tests: of keepers and heaps as in the chapter's examples, and of the lock under which nodes are changed.
const (
	lockObj   = 3
	keeperObj = 4
	heapObj   = 5
)

// root is one of the tests: its stamp, and the nodes that it has.
type root struct {
	stamp int64
	nodes []api.Ref
}

func (r root) Stamp() int64 { return r.stamp }

// client is a body, keeper one of the tests, ref a Ref without the names: the words are short, as the tests have many.
type (
	client = func(*sched.Client)
	keeper = epoch.Keeper[root, string]
)

func ref(num, gen int) api.Ref { return api.Ref{Num: num, Gen: gen} }

// firsts are the Refs of nodes that were never freed.
func firsts(nums ...int) []api.Ref {
	var all []api.Ref
	for _, n := range nums {
		all = append(all, ref(n, 1))
	}
	return all
}

func mustHeap[T any](t *testing.T, w *prim.World, most int) *heap.Heap[T] {
	t.Helper()
	h, e := heap.New[T](w, heapObj, most)
	if e != isOK {
		t.Fatalf("a heap of %d: %d", most, e)
	}
	return h
}

func mustAlloc[T any](t *testing.T, h *heap.Heap[T], c *sched.Client, v T) api.Ref {
	t.Helper()
	r, e := h.Alloc(c, v)
	if e != isOK {
		t.Fatalf("Alloc: %d", e)
	}
	return r
}

func mustKeep[R epoch.Stamped, T any](t *testing.T, w *prim.World, h *heap.Heap[T], slots int, first R) *epoch.Keeper[R, T] {
	t.Helper()
	k, e := epoch.New(w, keeperObj, h, slots, first)
	if k == nil || e != isOK {
		t.Fatalf("a keeper of %d slots: %v, %d", slots, k, e)
	}
	return k
}

// made is that of the chapter's examples: a heap with so many nodes, and a root of the stamp 5.
func made(t *testing.T, w *prim.World, nodes, slots int) (*heap.Heap[string], *keeper) {
	t.Helper()
	h := mustHeap[string](t, w, 1000)
	for i := range nodes {
		mustAlloc(t, h, nil, string(rune('a'+i)))
	}
	return h, mustKeep(t, w, h, slots, root{5, firsts(1, 2)})
}

// wantHave looks whether the heap has just these of its nodes, all of which were never freed.
func wantHave[T any](t *testing.T, h *heap.Heap[T], nums ...int) {
	t.Helper()
	for num := 1; num <= h.Made(); num++ {
		if _, there := h.Get(nil, ref(num, 1)); there != slices.Contains(nums, num) {
			t.Errorf("node %d is there: %v; want those of %v", num, there, nums)
		}
	}
}

func wantPins[R epoch.Stamped, T any](t *testing.T, k *epoch.Keeper[R, T], want ...int64) {
	t.Helper()
	if got := k.Pins(); !slices.Equal(got, want) {
		t.Errorf("pins %v; want %v", got, want)
	}
}

func wantRetired[R epoch.Stamped, T any](t *testing.T, k *epoch.Keeper[R, T], want int) {
	t.Helper()
	if got := k.Retired(); got != want {
		t.Errorf("%d retired; want %d", got, want)
	}
}

func wantPublish[T any](t *testing.T, k *epoch.Keeper[root, T], stamp int64, retired []api.Ref, freed, left int) {
	t.Helper()
	if n := k.Publish(nil, root{stamp: stamp}, retired); n != freed {
		t.Errorf("Publish of %d: %d freed; want %d", stamp, n, freed)
	}
	if got := k.Root(nil); got.stamp != stamp {
		t.Errorf("the root is %v; want %d", got, stamp)
	}
	wantRetired(t, k, left)
}

func wantPass[R epoch.Stamped, T any](t *testing.T, k *epoch.Keeper[R, T], freed, left int) {
	t.Helper()
	if n := k.Pass(nil); n != freed {
		t.Errorf("Pass: %d freed; want %d", n, freed)
	}
	wantRetired(t, k, left)
}

// mustRun is a run in which no client panics.
func mustRun(t *testing.T, bodies []client, script ...int) api.Run {
	t.Helper()
	r, e := sched.Run(bodies, script)
	if e != api.OK || slices.Contains(r.Ends, hasPanicked) {
		t.Fatalf("%d clients, %d entries: %d, ends %v", len(bodies), len(script), e, r.Ends)
	}
	return r
}

// stepsOf one client alone, as far as they come in n picks.
func stepsOf(t *testing.T, n int, body client) []api.Step {
	t.Helper()
	var all []api.Step
	for _, e := range mustRun(t, []client{body}, make([]int, n)...).Events {
		all = append(all, e.Step)
	}
	return all
}

// at is a step of a test's keeper, in one of its heap.
func at(kind, num int) api.Step { return api.Step{Kind: kind, Obj: keeperObj, Num: num} }

func in(kind, num int) api.Step { return api.Step{Kind: kind, Obj: heapObj, Num: num} }

// freeOf is the steps of a Free of a node that is there.
func freeOf(num int) []api.Step {
	return []api.Step{in(kindGet, num), in(kindSet, num), in(kindGet, 0), in(kindSet, 0)}
}

func wantSteps(t *testing.T, what string, body client, want ...api.Step) {
	t.Helper()
	if got := stepsOf(t, 2000, body); !slices.Equal(got, want) {
		t.Errorf("%s: steps %v; want %v", what, got, want)
	}
}

// dice makes programs and scripts that are the same in each run.
type dice struct{ *rand.Rand }

func newDice(seed int64) dice { return dice{rand.New(rand.NewSource(seed))} }

func (d dice) script(n int) []int {
	var all []int
	for range n {
		all = append(all, d.Intn(1000)-200)
	}
	return all
}
