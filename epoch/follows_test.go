package epoch_test

import (
	"fmt"
	"runtime"
	"slices"
	"testing"

	"docket/api"
	"docket/clocks"
	"docket/epoch"
	"docket/heap"
	"docket/prim"
	"docket/sched"
)

// story is a keeper that is used as 14.2 has it, and what its clients saw of it: without the chapter's steps, by the calls' beginnings and ends alone.
type story struct {
	h      *heap.Heap[int]
	k      *epoch.Keeper[root, int]
	lock   *prim.Mutex
	values map[api.Ref]int
	stamps map[api.Ref]int64 // of what was retired, with which
	made   int
	newest root // as a Publish that has ended or begun left it
	freed  int
	kept   int // Publishes behind which something was left
	old    int // nodes that were found, though the newest root has them no more
}

func newStory(t *testing.T, w *prim.World, slots, most int) *story {
	t.Helper()
	h := mustHeap[int](t, w, most)
	return &story{h: h, k: mustKeep(t, w, h, slots, root{}), lock: w.Mutex(lockObj, 0), values: map[api.Ref]int{}, stamps: map[api.Ref]int64{}}
}

// publish makes another root of the newest one: some of its nodes, and some that are new. Whoever calls it holds the lock.
func (s *story) publish(t *testing.T, d dice, c *sched.Client) {
	was := s.k.Root(c)
	next := root{stamp: was.stamp + 1 + int64(d.Intn(3)/2)}
	var retired []api.Ref
	for _, r := range was.nodes {
		if d.Intn(3) == 0 {
			retired = append(retired, r)
			s.stamps[r] = next.stamp
		} else {
			next.nodes = append(next.nodes, r)
		}
	}
	for range d.Intn(3) {
		s.made++
		if r, e := s.h.Alloc(c, s.made); e == api.OK {
			s.values[r] = s.made
			next.nodes = append(next.nodes, r)
		}
	}
	s.newest = next
	s.freed += s.k.Publish(c, next, retired)
	if s.k.Retired() > 0 {
		s.kept++
	}
}

func (s *story) writer(t *testing.T, d dice, calls int) client {
	return func(c *sched.Client) {
		for range calls {
			s.lock.Lock(c)
			s.publish(t, d, c)
			if d.Intn(4) == 0 {
				s.freed += s.k.Pass(c)
			}
			s.lock.Unlock(c)
		}
	}
}

// pin: P14.7, P14.10: what it answers was the newest root at some time of the call.
func (s *story) pin(t *testing.T, c *sched.Client, slot int) root {
	from, picks := s.k.Root(nil).stamp, c.Picks()
	r := s.k.Pin(c, slot)
	if r.stamp < from || r.stamp > s.newest.stamp {
		t.Errorf("Pin: %v; from %d to %d", r, from, s.newest.stamp)
	}
	if n := c.Picks() - picks; c != nil && n != 3 {
		t.Errorf("Pin in %d picks", n)
	}
	return r
}

func (s *story) unpin(t *testing.T, c *sched.Client, slot int) {
	picks := c.Picks()
	if s.k.Unpin(c, slot); c.Picks() != picks+1 {
		t.Errorf("Unpin in %d picks", c.Picks()-picks)
	}
}

// look: P14.7: every node of the root is there, and what it was.
func (s *story) look(t *testing.T, c *sched.Client, r root) {
	for _, n := range r.nodes {
		v, there := s.h.Get(c, n)
		if !there || v != s.values[n] {
			t.Errorf("node %v of the root %d: %d, %v; want %d", n, r.stamp, v, there, s.values[n])
		}
		if !slices.Contains(s.newest.nodes, n) {
			s.old++
		}
	}
}

// reader has two slots of its own: one that it pins for a while, as for a call, another over several of these.
func (s *story) reader(t *testing.T, d dice, calls, slot int) client {
	return func(c *sched.Client) {
		var long root
		for i := range calls {
			if i%3 == 0 {
				long = s.pin(t, c, slot+1)
			}
			r := s.pin(t, c, slot)
			s.look(t, c, r)
			s.unpin(t, c, slot)
			if i%3 == 2 {
				s.look(t, c, long)
				s.unpin(t, c, slot+1)
			}
			if d.Intn(5) == 0 {
				c.Step(api.Step{Kind: kindLoad, Obj: 99}, nil, nil)
			}
		}
	}
}

// wantAll: P14.8: when all pins are 0.
func (s *story) wantAll(t *testing.T) {
	t.Helper()
	wantPins(t, s.k, make([]int64, len(s.k.Pins()))...)
	left := s.k.Retired()
	if n := s.k.Pass(nil); n != left || s.k.Retired() != 0 {
		t.Errorf("Pass: %d freed of %d, %d left", n, left, s.k.Retired())
	}
	now := s.k.Root(nil)
	if s.h.Live() != len(now.nodes) {
		t.Errorf("%d live; want the root's %d", s.h.Live(), len(now.nodes))
	}
	s.look(t, nil, now)
}

// P14.7, P14.8, P14.10: under every script, with several that publish under a lock, and several that read at any time. Nothing races.
func TestFollows(t *testing.T) {
	d := newDice(4)
	freed, kept, old := 0, 0, 0
	for i := range 800 {
		s := newStory(t, prim.Scripted(), 6, d.Intn(60)+5)
		bodies := []client{s.reader(t, d, 45, 0), s.writer(t, d, 12), s.reader(t, d, 45, 2), s.writer(t, d, 12), s.reader(t, d, 45, 4)}
		r := mustRun(t, bodies, d.script(6000)...)
		if !slices.Equal(r.Ends, []int{hasEnded, hasEnded, hasEnded, hasEnded, hasEnded}) {
			t.Errorf("ends %v", r.Ends)
		}
		s.wantAll(t)
		if races, e := clocks.Races(r.Events, len(bodies)); len(races) != 0 || e != api.OK {
			t.Errorf("run %d: races %v, %d", i, races, e)
		}
		freed, kept, old = freed+s.freed, kept+s.kept, old+s.old
		if t.Failed() {
			t.FailNow()
		}
	}
	if freed < 5000 || kept < 5000 || old < 5000 {
		t.Errorf("%d freed, %d times something was kept, %d old nodes were found", freed, kept, old)
	}
}

// P14.7: a run that is cut off: what is pinned then is there, whatever the others were doing, and goes on to be there when they go on.
func TestFollowsCutOff(t *testing.T) {
	d := newDice(5)
	old := 0
	for range 800 {
		s := newStory(t, prim.Scripted(), 3, 60)
		s.publish(t, d, nil)
		s.publish(t, d, nil)
		held := make([]root, 3)
		pinned := make([]bool, 3)
		reader := func(c *sched.Client) {
			n := c.Number()
			for {
				held[n] = s.pin(t, c, n)
				pinned[n] = true
				s.look(t, c, held[n])
				pinned[n] = false
				s.unpin(t, c, n)
			}
		}
		mustRun(t, []client{reader, reader, reader, s.writer(t, d, 40)}, d.script(d.Intn(400))...)
		s.lock.Unlock(nil)
		mustRun(t, []client{s.writer(t, d, 10)}, make([]int, 3000)...)
		for n, yes := range pinned {
			if yes {
				s.look(t, nil, held[n])
			}
		}
		old += s.old
		if t.Failed() {
			t.FailNow()
		}
	}
	if old < 2000 {
		t.Errorf("%d old nodes were found", old)
	}
}

// P14.7: every schedule of one that pins and reads, and one that publishes twice, and uses a freed node again between.
func TestEverySchedule(t *testing.T) {
	const picks, own = 26, 5
	freed, kept, runs := 0, 0, 0
	var place func(script []int, from, left int)
	place = func(script []int, from, left int) {
		if left > 0 {
			for i := from; i <= picks-left; i++ {
				script[i] = 1
				place(script, i+1, left-1)
				script[i] = 0
			}
			return
		}
		runs++
		h, k := made(t, prim.Scripted(), 2, 1)
		writer := func(c *sched.Client) {
			n := k.Publish(c, root{6, firsts(2)}, firsts(1))
			again := mustAlloc(t, h, c, "again")
			n += k.Publish(c, root{7, []api.Ref{again}}, firsts(2))
			freed, kept = freed+n, kept+k.Retired()
		}
		reader := func(c *sched.Client) {
			r := k.Pin(c, 0)
			for _, n := range r.nodes {
				if v, there := h.Get(c, n); !there || v == "" {
					t.Errorf("under %v node %v of the root %d is lost", script, n, r.stamp)
				}
			}
		}
		if r := mustRun(t, []client{writer, reader}, script...); !slices.Equal(r.Ends, []int{hasEnded, hasEnded}) {
			t.Fatalf("under %v: %v", script, r)
		}
	}
	place(make([]int, 40), 0, own)
	if runs < 60000 || freed < 10000 || kept < 10000 {
		t.Errorf("%d runs, %d freed, %d kept", runs, freed, kept)
	}
}

// P14.8, P14.9: behind each pass, of one call behind the other.
func TestNeverTooLate(t *testing.T) {
	d := newDice(6)
	held, freed := 0, 0
	for _, w := range []*prim.World{prim.Scripted(), prim.Real()} {
		for range 150 {
			slots := d.Intn(8) + 1
			s := newStory(t, w, slots, 300)
			roots := make([]root, slots)
			pinned := make([]bool, slots)
			for range 120 {
				slot := d.Intn(slots)
				switch d.Intn(4) {
				case 0:
					roots[slot], pinned[slot] = s.pin(t, nil, slot), true
				case 1:
					s.k.Unpin(nil, slot)
					pinned[slot] = false
				case 2:
					s.publish(t, d, nil)
					held += s.wantNoneTooLate(t)
				default:
					s.freed += s.k.Pass(nil)
					held += s.wantNoneTooLate(t)
				}
				for slot, yes := range pinned {
					if yes {
						s.look(t, nil, roots[slot])
					}
				}
			}
			for slot := range slots {
				s.k.Unpin(nil, slot)
			}
			s.wantAll(t)
			freed += s.freed
		}
	}
	if held < 1000 || freed < 1000 {
		t.Errorf("%d held, %d freed", held, freed)
	}
}

// wantNoneTooLate looks at what was retired, and is still there: how much that is.
func (s *story) wantNoneTooLate(t *testing.T) int {
	t.Helper()
	var least int64
	for _, p := range s.k.Pins() {
		if p != 0 && (least == 0 || p < least) {
			least = p
		}
	}
	left := 0
	for r, stamp := range s.stamps {
		if _, there := s.h.Get(nil, r); !there {
			continue
		}
		left++
		if least == 0 || stamp < least {
			t.Errorf("%v, retired with %d, is still there; the least pin is %d", r, stamp, least)
		}
	}
	wantRetired(t, s.k, left)
	if s.h.Live() != len(s.newest.nodes)+left {
		t.Errorf("%d live; want %d and %d", s.h.Live(), len(s.newest.nodes), left)
	}
	return left
}

// P14.10: wherever one that publishes has come to, with the lock held, a Pin and an Unpin go on by three picks and one.
func TestNeverWaits(t *testing.T) {
	const own = 29 // the lock's steps, those of a Publish that frees five, and of a Pass over nothing
	for picks := range own {
		w := prim.Scripted()
		_, k := made(t, w, 9, 2)
		m := w.Mutex(lockObj, 0)
		k.Pin(nil, 1)
		wantPublish(t, k, 6, firsts(1, 2), 0, 2)
		k.Unpin(nil, 1)
		writer := func(c *sched.Client) {
			m.Lock(c)
			if n := k.Publish(c, root{stamp: 7}, firsts(3, 4, 5)) + k.Pass(c); n != 5 {
				t.Errorf("%d freed", n)
			}
			m.Unlock(c)
		}
		reader := func(c *sched.Client) {
			k.Pin(c, 0)
			k.Unpin(c, 0)
		}
		script := append(make([]int, picks), 1, 1, 1, 1)
		r := mustRun(t, []client{writer, reader, m.Lock}, script...)
		var steps []api.Step
		for _, e := range r.Events[picks:] {
			if e.Client == 1 {
				steps = append(steps, e.Step)
			}
		}
		if want := []api.Step{at(kindLoad, 0), at(kindStore, 1), at(kindLoad, 0), at(kindStore, 1)}; !slices.Equal(steps, want) || r.Ends[1] != hasEnded || r.Ends[0] == hasEnded {
			t.Errorf("behind %d picks: %v, ends %v; want %v", picks, steps, r.Ends, want)
		}
		wantPins(t, k, 0, 0)
	}
}

// Rule 4: one value, on however many processors.
func TestOneValue(t *testing.T) {
	d := newDice(7)
	defer runtime.GOMAXPROCS(runtime.GOMAXPROCS(0))
	for range 100 {
		programs, script := d.programs(5, 12, 3), d.script(d.Intn(300))
		var first string
		for i, n := range []int{1, 2, 4} {
			runtime.GOMAXPROCS(n)
			b, _ := twins(t, prim.Scripted(), 3, 6, 1)
			b.fill()
			r := b.play(t, programs, script, true)
			told := fmt.Sprint(r, b.lines, b.told, b.k.Pins(), b.k.Retired(), b.k.Root(nil))
			if i > 0 && told != first {
				t.Fatalf("%v under %v:\n%s\n%s", programs, script, told, first)
			}
			first = told
		}
	}
}
