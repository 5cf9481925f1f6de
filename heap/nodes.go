package heap

import (
	"docket/api"
	"docket/prim"
	"docket/sched"
)

// node is what lies in a node's cell.
type node[T any] struct {
	gen   int
	live  bool
	value T
}

func (n node[T]) isOf(r api.Ref) bool { return n.live && n.gen == r.Gen }

// cell is where a node lies.
type cell[T any] interface {
	Get(c *sched.Client) node[T]
	Set(c *sched.Client, n node[T])
}

// realCell is a cell of the real world. There prim's own is for whoever holds a lock for it alone; but a Get of a node may come at any time, and takes no lock. An atomic is safe then, and takes no steps there either.
type realCell[T any] struct{ whole *prim.Atomic[node[T]] }

func (x realCell[T]) Get(c *sched.Client) node[T] { return x.whole.Load(c) }

func (x realCell[T]) Set(c *sched.Client, n node[T]) { x.whole.Store(c, n) }

func newCell[T any](w *prim.World, obj, num int) cell[T] {
	if w.IsReal() {
		return realCell[T]{prim.NewAtomic(w, obj, num, node[T]{})}
	}
	return prim.NewCell(w, obj, num, node[T]{})
}

// cell is that of a node that was made.
func (h *Heap[T]) cell(num int) (cell[T], bool) {
	if num < 1 || num > h.Made() {
		return nil, false
	}
	return (*h.made.Load())[num-1], true
}

// useAgain is an Alloc that found the pool so, with a number at least.
func (h *Heap[T]) useAgain(c *sched.Client, free pool, v T) api.Ref {
	num, rest := free.taken()
	h.pool.Set(c, rest)
	x, _ := h.cell(num) // what is in the pool was made
	// Whoever calls has no step for the generation: it is looked at as by nobody.
	gen := x.Get(nil).gen
	x.Set(c, node[T]{gen: gen, live: true, value: v})
	return api.Ref{Num: num, Gen: gen}
}

// makeOne is an Alloc that found the pool empty, and room for a node more.
func (h *Heap[T]) makeOne(c *sched.Client, v T) api.Ref {
	r := api.Ref{Num: h.Made() + 1, Gen: 1}
	if h.next == nil {
		h.next = newCell[T](h.world, h.obj, r.Num)
	}
	x := h.next
	x.Set(c, node[T]{gen: r.Gen, live: true, value: v})
	h.add(r.Num, x)
	return r
}

// add is done with the Set that makes the node, by the client that goes on; where two have made one node, once.
func (h *Heap[T]) add(num int, x cell[T]) {
	if num <= h.Made() {
		return
	}
	longer := append(*h.made.Load(), x)
	h.made.Store(&longer)
	h.next = nil
}
