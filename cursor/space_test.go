package cursor_test

import (
	"slices"
	"strconv"
	"testing"

	"docket/api"
	"docket/clocks"
	"docket/cursor"
	"docket/epoch"
	"docket/heap"
	"docket/prim"
	"docket/sched"
	"docket/trie"
)

// The kind as chapter 10 numbers it, and how a client ends, as chapter 9 does.
const (
	kindGet    = 8
	wasStopped = 0
	hasEnded   = 1
)

const obj = 6

type client = func(*sched.Client)

func mustHeap(t testing.TB, w *prim.World, most int) *heap.Heap[api.Node] {
	t.Helper()
	h, e := heap.New[api.Node](w, obj, most)
	if e != isOK {
		t.Fatalf("New: %d", e)
	}
	return h
}

func mustRun(t *testing.T, bodies []client, script ...int) api.Run {
	t.Helper()
	r, e := sched.Run(bodies, script)
	if e != isOK {
		t.Fatalf("Run: %d", e)
	}
	return r
}

// P19.2: each node that a page gets is a step of its client, and there are no others; From takes none.
func TestSteps(t *testing.T) {
	h := mustHeap(t, prim.Scripted(), 100)
	l := letters("abcde")
	top := lay(t, trie.Of(h, nil), l)
	c, f := open(t, "", "", 2), open(t, "", "", 2)
	page := func(nums ...int) {
		t.Helper()
		r := mustRun(t, []client{func(who *sched.Client) {
			docs, done, e := c.Next(trie.Of(h, who), top)
			if list, over := f.From(l); text(docs) != text(list) || done != over || e != isOK {
				t.Errorf("%v, %v, %d; %v, %v", docs, done, e, list, over)
			}
		}}, make([]int, 50)...)
		var got []int
		for _, x := range r.Events {
			if x.Step.Kind != kindGet || x.Step.Obj != obj {
				t.Errorf("%v", x)
			}
			got = append(got, x.Step.Num)
		}
		if !slices.Equal(got, nums) || r.Ends[0] != hasEnded {
			t.Errorf("%v, %v; want %v", got, r.Ends, nums)
		}
	}
	page(6, 1, 2)
	page(6, 2, 3, 4)
	page(6, 4, 5)
	page()
}

// A client that is stopped in the midst of a Next leaves the cursor as it was.
func TestStopped(t *testing.T) {
	h := mustHeap(t, prim.Scripted(), 100)
	top := lay(t, trie.Of(h, nil), letters("abcde"))
	c := open(t, "", "", 2)
	wantNext(t, c, trie.Of(h, nil), top, "ec", false)
	for picks := range 4 {
		was := *c
		r := mustRun(t, []client{func(who *sched.Client) {
			c.Next(trie.Of(h, who), top)
			t.Errorf("behind %d steps it went on", picks)
		}}, make([]int, picks)...)
		if r.Ends[0] != wasStopped || *c != was {
			t.Errorf("behind %d steps: %v, %v", picks, r.Ends, *c)
		}
	}
	wantNext(t, c, trie.Of(h, nil), top, "db", false)
}

// P19.2: nodes that were freed are lost, though their numbers are used again.
func TestFreed(t *testing.T) {
	h := mustHeap(t, prim.Scripted(), 100)
	s := trie.Of(h, nil)
	top := lay(t, s, letters("abcde"))
	c := open(t, "", "", 2)
	wantNext(t, c, s, top, "ec", false)
	next, retired, e := trie.Change(s, top, []api.Edit{{Item: item("d", 77)}})
	if e != isOK || len(retired) != 2 {
		t.Fatal(retired, e)
	}
	wantNext(t, open(t, "", "", 9), s, top, "ecdba", true)
	for _, r := range retired {
		h.Free(nil, r)
	}
	wantLost(t, "freed", c, s, top)
	lay(t, s, letters("xyz"))
	wantLost(t, "used again", c, s, top)
	wantNext(t, c, s, next, "db", false)
}

// root is a tree's top, under a stamp.
type root struct {
	stamp int64
	top   api.Ref
}

func (r root) Stamp() int64 { return r.stamp }

// store is a tree that clients change under a lock, and go over with cursors that pin it.
type store struct {
	world *prim.World
	lock  *prim.Mutex
	heap  *heap.Heap[api.Node]
	keep  *epoch.Keeper[root, api.Node]
}

func newStore(t testing.TB, w *prim.World, slots int, l []api.Item) *store {
	t.Helper()
	s := &store{world: w, lock: w.Mutex(5, 0), heap: mustHeap(t, w, 2000)}
	keep, e := epoch.New(w, 7, s.heap, slots, root{1, lay(t, trie.Of(s.heap, nil), l)})
	if e != isOK {
		t.Fatal(e)
	}
	s.keep = keep
	return s
}

func (s *store) change(c *sched.Client, edits []api.Edit) {
	s.lock.Lock(c)
	r := s.keep.Root(c)
	if next, retired, e := trie.Change(trie.Of(s.heap, c), r.top, edits); e == isOK {
		s.keep.Publish(c, root{r.stamp + 1, next}, retired)
	}
	s.lock.Unlock(c)
}

// goOver pins a root and goes over it page by page: the sum of all n, and what was lost.
func (s *store) goOver(c *sched.Client, slot int, pages *cursor.Cursor) (sum int64, why api.Errno) {
	r := s.keep.Pin(c, slot)
	for !pages.Done() {
		docs, _, e := pages.Next(trie.Of(s.heap, c), r.top)
		if e != isOK {
			why = e
			break
		}
		for _, x := range docs {
			sum += x.Value.Items[0].Int
		}
	}
	s.keep.Unpin(c, slot)
	return sum, why
}

// purse are items whose n are together 1000, and move takes from one what it gives to the next, so that they stay so.
func purse() []api.Item {
	var l []api.Item
	for i := range 10 {
		l = append(l, item("p"+strconv.Itoa(i), 100))
	}
	return l
}

func move(i, by int) []api.Edit {
	i %= 9
	return []api.Edit{{Item: item("p"+strconv.Itoa(i), 100-by)}, {Item: item("p"+strconv.Itoa(i+1), 100+by)}}
}

// back is what undoes it.
func back(i int) []api.Edit { return move(i, 0) }

// P6, as far as it is of this layer: under any script a cursor tells one state, whatever is written between its pages and within them; and nothing races.
func TestOneState(t *testing.T) {
	d := newDice(190)
	ended := 0
	for range 150 {
		s := newStore(t, prim.Scripted(), 2, purse())
		writer := func(c *sched.Client) {
			for i := range 4 {
				s.change(c, move(i, 7))
				s.change(c, back(i))
			}
		}
		bodies := []client{writer}
		for slot := range 2 {
			pages := open(t, "", "", 1+d.Intn(4))
			bodies = append(bodies, func(c *sched.Client) {
				if sum, e := s.goOver(c, slot, pages); sum != 1000 || e != isOK {
					t.Errorf("%d, %d", sum, e)
				}
				if pages.Looked() != 10 {
					t.Errorf("%d looked at", pages.Looked())
				}
				ended++
			})
		}
		script := make([]int, 2000)
		for i := range script {
			script[i] = d.Intn(9)
		}
		r := mustRun(t, bodies, script...)
		if slices.Contains(r.Ends, 2) {
			t.Fatalf("%v", r.Ends)
		}
		if races, e := clocks.Races(r.Events, len(bodies)); len(races) > 0 || e != isOK {
			t.Fatalf("%v, %d", races, e)
		}
	}
	if ended < 250 {
		t.Errorf("%d ended: that says little", ended)
	}
}

// The same where clients really run beside one another.
func TestBeside(t *testing.T) {
	const readers = 4
	s := newStore(t, prim.Real(), readers, purse())
	faults := make([]string, readers)
	bodies := []func(){func() {
		for i := range 2000 {
			s.change(nil, move(i, 7))
			s.change(nil, back(i))
		}
	}}
	for slot := range readers {
		bodies = append(bodies, func() {
			for i := range 500 {
				pages, _ := cursor.New(nil, nil, 1+(i+slot)%5)
				if sum, e := s.goOver(nil, slot, pages); sum != 1000 || e != isOK || pages.Looked() != 10 {
					faults[slot] = strconv.FormatInt(sum, 10) + ", " + strconv.Itoa(int(e))
				}
			}
		})
	}
	prim.Beside(bodies)
	for _, fault := range faults {
		if fault != "" {
			t.Error(fault)
		}
	}
}
