package heap_test

import (
	"sync/atomic"
	"testing"

	"docket/api"
	"docket/heap"
	"docket/prim"
)

// wide is a value of many words, all of which say the same: one that was torn would not.
type wide [100]int

func newWide(i int) wide {
	var x wide
	for k := range x {
		x[k] = i
	}
	return x
}

// P12.3, P12.8 in the real world: a Get may be called by anybody at any time, while one frees and uses again the very nodes: what it tells is what was laid under that Ref, or nothing.
func TestGetsBeside(t *testing.T) {
	const most, rounds = 3, 30000
	h := mustNew[wide](t, prim.Real(), most)
	var last, ended, found atomic.Int64
	// Of the round i the Ref is {i mod most + 1, i / most + 1}, and the value i + 1: the node that was freed last is used first.
	writer := func() {
		defer ended.Store(1)
		for i := range rounds {
			r := ref(i%most+1, i/most+1)
			if i >= most && !h.Free(nil, ref(r.Num, r.Gen-1)) {
				t.Errorf("%v is not there to be freed", r)
			}
			if got, e := h.Alloc(nil, newWide(i+1)); got != r || e != api.OK {
				t.Errorf("%v, %d; want %v", got, e, r)
			}
			last.Store(int64(i))
		}
	}
	look := func(i int) {
		r := ref(i%most+1, i/most+1)
		v, ok := h.Get(nil, r)
		if ok && v != newWide(i+1) || !ok && v != (wide{}) {
			t.Errorf("Get of %v: %v, %v", r, v, ok)
		}
		if ok {
			found.Add(1)
		}
	}
	// It looks once more behind the end: the last nodes are there then, however the goroutines ran.
	reader := func() {
		for over := false; !over && !t.Failed(); {
			over = ended.Load() == 1
			for back := range most + 2 {
				look(max(int(last.Load())+1-back, 0))
			}
		}
	}
	prim.Beside([]func(){reader, writer, reader, reader})
	if h.Made() != most || found.Load() < most {
		t.Errorf("%d made, %d found", h.Made(), found.Load())
	}
}

// P12.3 in the real world: nodes that were handed on by an atomic are found, while others are made beside, and numbers that were never made are not.
func TestFoundBeside(t *testing.T) {
	const most = 50000
	h := mustNew[int](t, prim.Real(), most)
	var made atomic.Int64
	writer := func() {
		for i := range most {
			if r, e := h.Alloc(nil, i); r != ref(i+1, 1) || e != api.OK {
				t.Errorf("%v, %d", r, e)
			}
			made.Store(int64(i + 1))
		}
	}
	reader := func() {
		for n := 0; n < most; {
			n = int(made.Load())
			for _, num := range []int{n, n/2 + 1, 1} {
				if v, ok := h.Get(nil, ref(num, 1)); n > 0 && (!ok || v != num-1) {
					t.Errorf("node %d of %d: %d, %v", num, n, v, ok)
					return
				}
			}
			if _, ok := h.Get(nil, ref(most+1, 1)); ok {
				t.Error("a node that was never made")
			}
		}
	}
	prim.Beside([]func(){reader, reader, writer, reader})
	wantCounts(t, h, most, 0, most, many(most, 1)...)
}

func many(n, v int) []int {
	all := make([]int, n)
	for i := range all {
		all[i] = v
	}
	return all
}

// P12.7 to P12.9 in the real world: several that change under a lock.
func TestChangesBeside(t *testing.T) {
	const most, writers, rounds = 64, 6, 3000
	w := prim.Real()
	h, m := mustNew[int](t, w, most), w.Mutex(lockObj, 0)
	told := map[api.Ref]int{} // written under the lock
	live, highest := 0, 0
	var bodies []func()
	for n := range writers {
		d := newDice(int64(10 + n))
		bodies = append(bodies, func() {
			mine := map[int]api.Ref{}
			for i := range rounds {
				m.Lock(nil)
				if r, there := mine[i%20]; there {
					if v, ok := h.Get(nil, r); !ok || v != told[r] || !h.Free(nil, r) || h.Free(nil, r) {
						t.Errorf("%v: %d, %v; want %d", r, v, ok, told[r])
					}
					delete(mine, i%20)
					live--
				} else if r, e := h.Alloc(nil, n*rounds+i); e == api.OK {
					if _, twice := told[r]; twice {
						t.Errorf("%v was told twice", r)
					}
					told[r], mine[i%20] = n*rounds+i, r
					live++
					highest = max(highest, live)
				} else if live != most {
					t.Errorf("full with %d", live)
				}
				m.Unlock(nil)
				if r, there := mine[d.Intn(20)]; there {
					if _, ok := h.Get(nil, r); !ok {
						t.Errorf("%v is not there", r)
					}
				}
			}
		})
	}
	prim.Beside(bodies)
	if h.Live() != live || h.Made() != highest || h.Made() != h.Pooled()+live || highest < 20 {
		t.Errorf("%d made, %d pooled; want %d live, %d at most", h.Made(), h.Pooled(), live, highest)
	}
}

// A heap is of its world whatever its client: one of a script's world may be used without clients, by one goroutine.
func TestWorldsApart(t *testing.T) {
	scripted, real := mustNew[int](t, prim.Scripted(), 3), mustNew[int](t, prim.Real(), 3)
	for _, h := range []*heap.Heap[int]{scripted, real} {
		wantAlloc(t, h, 7, ref(1, 1))
		wantValue(t, h, ref(1, 1), 7)
	}
}
