package heap_test

import (
	"fmt"
	"runtime"
	"slices"
	"testing"

	"docket/api"
	"docket/clocks"
	"docket/heap"
	"docket/prim"
	"docket/sched"
)

// story is what clients saw of a heap: without the chapter's steps, by the calls' beginnings and ends alone. No two clients write at one time.
type story struct {
	values  map[api.Ref]int // what was laid there
	freeing map[api.Ref]int // of which a Free has begun; 2: it has ended
	live    int
	highest int
	found   int
	missed  int
}

// writer calls Alloc and Free under a lock, and keeps some nodes for a while.
func (s *story) writer(t *testing.T, d dice, h *heap.Heap[int], m *prim.Mutex, calls int) client {
	return func(c *sched.Client) {
		var mine []api.Ref
		for i := range calls {
			m.Lock(c)
			if n := len(mine); n > 0 && d.Intn(n+2) > 1 {
				k := d.Intn(n)
				s.free(t, c, h, mine[k])
				mine = slices.Delete(mine, k, k+1)
			} else if r, e := h.Alloc(c, c.Number()*1000+i); e == api.OK {
				s.allocated(t, h, r, c.Number()*1000+i)
				mine = append(mine, r)
			} else if e != isFull || r != ref(0, 0) || s.live != h.Made() {
				t.Errorf("Alloc: %v, %d with %d live of %d", r, e, s.live, h.Made())
			}
			s.wantCounts(t, h)
			m.Unlock(c)
		}
	}
}

// allocated: P12.8, no two Allocs answer the same Ref.
func (s *story) allocated(t *testing.T, h *heap.Heap[int], r api.Ref, v int) {
	if _, twice := s.values[r]; twice {
		t.Errorf("%v was told twice", r)
	}
	s.values[r] = v
	s.live++
	s.highest = max(s.highest, s.live)
	if r.Num < 1 || r.Num > h.Made() || r.Gen != h.Gen(r.Num) {
		t.Errorf("%v was told of %d nodes, where the generation is %d", r, h.Made(), h.Gen(r.Num))
	}
}

func (s *story) free(t *testing.T, c *sched.Client, h *heap.Heap[int], r api.Ref) {
	s.freeing[r] = 1
	if !h.Free(c, r) {
		t.Errorf("%v is not there to be freed", r)
	}
	s.freeing[r] = 2
	s.live--
	if h.Free(c, r) {
		t.Errorf("%v was freed twice", r)
	}
}

// wantCounts: P12.7, P12.9.
func (s *story) wantCounts(t *testing.T, h *heap.Heap[int]) {
	if h.Made() != h.Pooled()+h.Live() || h.Live() != s.live || h.Made() != s.highest {
		t.Errorf("%d made, %d pooled, %d live; want %d live, %d at most", h.Made(), h.Pooled(), h.Live(), s.live, s.highest)
	}
}

// reader: P12.8, a Ref tells its value from its Alloc to its Free, and nothing behind that.
func (s *story) reader(t *testing.T, d dice, h *heap.Heap[int], calls int) client {
	return func(c *sched.Client) {
		for range calls {
			r := ref(d.Intn(h.Made()+2), d.Intn(4)+1)
			_, there := s.values[r]
			gone := s.freeing[r] == 2
			v, ok := h.Get(c, r)
			want, nowThere := s.values[r]
			switch {
			case ok && (v != want || gone || !nowThere):
				t.Errorf("Get of %v: %d; want %d, or nothing", r, v, want)
			case !ok && v != 0:
				t.Errorf("Get of %v: %d, and false", r, v)
			case !ok && there && s.freeing[r] == 0:
				t.Errorf("Get of %v: nothing; want %d", r, want)
			}
			if ok {
				s.found++
			} else {
				s.missed++
			}
			c.Step(api.Step{Kind: 100}, nil, nil)
		}
	}
}

// P12.7 to P12.9: under every script, with several that change under a lock, and several that look at any time.
func TestFollows(t *testing.T) {
	d := newDice(5)
	full, found, missed := 0, 0, 0
	for range 1500 {
		w := prim.Scripted()
		most := d.Intn(12) + 1
		h, m := mustNew[int](t, w, most), w.Mutex(lockObj, 0)
		s := &story{values: map[api.Ref]int{}, freeing: map[api.Ref]int{}}
		bodies := []client{s.reader(t, d, h, 40), s.writer(t, d, h, m, 25), s.reader(t, d, h, 40), s.writer(t, d, h, m, 25)}
		r := mustRun(t, bodies, d.script(2000)...)
		if !slices.Equal(r.Ends, []int{hasEnded, hasEnded, hasEnded, hasEnded}) || h.Made() > most {
			t.Errorf("ends %v; %d made of %d", r.Ends, h.Made(), most)
		}
		s.wantCounts(t, h)
		if h.Made() == most {
			full++
		}
		found += s.found
		missed += s.missed
		if t.Failed() {
			t.FailNow()
		}
	}
	if full < 100 || found < 10000 || missed < 10000 {
		t.Errorf("%d full heaps, %d found, %d missed", full, found, missed)
	}
}

// P12.8: false for ever: all Refs that were ever told of one node, but the last.
func TestForEver(t *testing.T) {
	h := mustNew[int](t, prim.Scripted(), 1)
	var all []api.Ref
	for i := range 300 {
		r := mustAlloc(t, h, i)
		if r != ref(1, i+1) {
			t.Fatalf("%v behind %d", r, i)
		}
		wantValue(t, h, r, i)
		for _, old := range all {
			wantNone(t, h, old)
			wantFree(t, h, old, false)
		}
		wantFree(t, h, r, true)
		all = append(all, r)
	}
}

// What is known to be ahead: under a lock no two accesses of the pool race; nor does a Get of a node whose Ref was handed on by an atomic, until it is freed.
func TestNoRace(t *testing.T) {
	d := newDice(6)
	for range 300 {
		w := prim.Scripted()
		h, m := mustNew[int](t, w, 20), w.Mutex(lockObj, 0)
		last := prim.NewAtomic(w, 3, 0, ref(0, 0))
		writer := func(c *sched.Client) {
			for i := range 6 {
				m.Lock(c)
				r, _ := h.Alloc(c, i)
				gone, _ := h.Alloc(c, -1)
				h.Free(c, gone)
				last.Store(c, r)
				m.Unlock(c)
			}
		}
		reader := func(c *sched.Client) {
			for range 6 {
				if r := last.Load(c); r != ref(0, 0) {
					if _, ok := h.Get(c, r); !ok {
						t.Errorf("%v is not there", r)
					}
				}
			}
		}
		r := mustRun(t, []client{writer, reader, writer, reader}, d.script(1000)...)
		if races, e := clocks.Races(r.Events, 4); len(races) != 0 || e != api.OK {
			t.Fatalf("%v, %d: %v", races, e, r.Events)
		}
	}
}

// Rule 4: one value, on however many processors.
func TestOneValue(t *testing.T) {
	d := newDice(7)
	defer runtime.GOMAXPROCS(runtime.GOMAXPROCS(0))
	for range 100 {
		programs, script := d.programs(5, 12), d.script(d.Intn(150))
		var first string
		for i, n := range []int{1, 2, 4} {
			runtime.GOMAXPROCS(n)
			world := prim.Scripted()
			b := &built{h: mustNew[string](t, world, 4), world: world}
			r := b.play(t, programs, script, true)
			told := fmt.Sprint(r, b.lines, b.told, b.h.Made(), b.h.Pooled())
			if i > 0 && told != first {
				t.Fatalf("%v under %v:\n%s\n%s", programs, script, told, first)
			}
			first = told
		}
	}
}
