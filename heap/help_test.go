package heap_test

import (
	"math/rand"
	"slices"
	"testing"

	"docket/api"
	"docket/heap"
	"docket/prim"
	"docket/sched"
)

// The kinds as chapter 10 numbers them, so that a test does not follow a number that another one stands for.
const (
	kindGet = 8
	kindSet = 9
)

// How a client ends, as chapter 9 numbers it.
const (
	wasStopped  = 0
	hasEnded    = 1
	hasPanicked = 2
)

// The limit and the errors as the document numbers them.
const (
	maxNodes = 1048576
	isOK     = 0
	isArg    = 2
	isFull   = 5
)

// obj is that of the heaps of the tests, as in the chapter's examples.
const obj = 5

// client is a body, ref a Ref without the names: the words are short, as the tests have many.
type client = func(*sched.Client)

func ref(num, gen int) api.Ref { return api.Ref{Num: num, Gen: gen} }

func mustNew[T any](t *testing.T, w *prim.World, most int) *heap.Heap[T] {
	t.Helper()
	h, e := heap.New[T](w, obj, most)
	if h == nil || e != isOK {
		t.Fatalf("New of %d: %v, %d", most, h, e)
	}
	return h
}

func mustAlloc[T any](t *testing.T, h *heap.Heap[T], v T) api.Ref {
	t.Helper()
	r, e := h.Alloc(nil, v)
	if e != isOK {
		t.Fatalf("Alloc: %d", e)
	}
	return r
}

func wantAlloc[T any](t *testing.T, h *heap.Heap[T], v T, want api.Ref) {
	t.Helper()
	if r, e := h.Alloc(nil, v); r != want || e != isOK {
		t.Errorf("Alloc: %v, %d; want %v", r, e, want)
	}
}

func wantFull[T any](t *testing.T, h *heap.Heap[T]) {
	t.Helper()
	var v T
	if r, e := h.Alloc(nil, v); r != ref(0, 0) || e != isFull {
		t.Errorf("Alloc of a full heap: %v, %d", r, e)
	}
}

func wantFree[T any](t *testing.T, h *heap.Heap[T], r api.Ref, want bool) {
	t.Helper()
	if got := h.Free(nil, r); got != want {
		t.Errorf("Free of %v: %v; want %v", r, got, want)
	}
}

func wantValue[T comparable](t *testing.T, h *heap.Heap[T], r api.Ref, want T) {
	t.Helper()
	if v, ok := h.Get(nil, r); v != want || !ok {
		t.Errorf("Get of %v: %v, %v; want %v", r, v, ok, want)
	}
}

func wantNone[T comparable](t *testing.T, h *heap.Heap[T], r api.Ref) {
	t.Helper()
	var none T
	if v, ok := h.Get(nil, r); v != none || ok {
		t.Errorf("Get of %v: %v, %v; want nothing", r, v, ok)
	}
}

// wantCounts looks at Made, Pooled and Live, and at the generations of the nodes, from 1 on.
func wantCounts[T any](t *testing.T, h *heap.Heap[T], made, pooled, live int, gens ...int) {
	t.Helper()
	if h.Made() != made || h.Pooled() != pooled || h.Live() != live {
		t.Errorf("%d made, %d pooled, %d live; want %d, %d, %d", h.Made(), h.Pooled(), h.Live(), made, pooled, live)
	}
	for i, want := range append(slices.Clone(gens), 0) {
		if got := h.Gen(i + 1); got != want {
			t.Errorf("node %d has the generation %d; want %d", i+1, got, want)
		}
	}
}

// mustRun is a run in which no client panics.
func mustRun(t *testing.T, bodies []client, script ...int) api.Run {
	t.Helper()
	r, e := sched.Run(bodies, script)
	if e != api.OK || slices.Contains(r.Ends, hasPanicked) {
		t.Fatalf("%d clients, %d entries: %d, ends %v", len(bodies), len(script), e, r.Ends)
	}
	return r
}

// steps of one client alone, as far as they come in n picks.
func stepsOf(t *testing.T, n int, body client) []api.Step {
	t.Helper()
	var all []api.Step
	for _, e := range mustRun(t, []client{body}, make([]int, n)...).Events {
		all = append(all, e.Step)
	}
	return all
}

// at is a step of a test's heap.
func at(kind, num int) api.Step { return api.Step{Kind: kind, Obj: obj, Num: num} }

func wantSteps(t *testing.T, what string, body client, want ...api.Step) {
	t.Helper()
	if got := stepsOf(t, 100, body); !slices.Equal(got, want) {
		t.Errorf("%s: steps %v; want %v", what, got, want)
	}
}

// dice makes programs and scripts that are the same in each run.
type dice struct{ *rand.Rand }

func newDice(seed int64) dice { return dice{rand.New(rand.NewSource(seed))} }

func (d dice) script(n int) []int {
	var all []int
	for range n {
		all = append(all, d.Intn(1000)-200)
	}
	return all
}
