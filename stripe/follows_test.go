package stripe_test

import (
	"fmt"
	"runtime"
	"slices"
	"testing"

	"docket/api"
	"docket/clocks"
	"docket/prim"
	"docket/sched"
	"docket/stripe"
)

// story is a table that is used as 15.3 has it, and what its clients saw of it: without the chapter's steps, by the calls' beginnings and ends alone.
type story struct {
	table  *stripe.Table
	has    map[string][]*stripe.Entry // what clients have, by the keys: from the answer of a Take to the Drop
	within int                        // clients that are within a Take or a Drop
	inside map[string]int             // clients that are between a Lock and an Unlock
	shared int                        // Takes that answered what another one had
	empty  int                        // times at which nobody had anything
	last   map[string]int             // of each key the number of its last entry
}

func newStory(t *testing.T, w *prim.World, stripes int) *story {
	t.Helper()
	return &story{table: mustTable(t, w, stripes), has: map[string][]*stripe.Entry{}, inside: map[string]int{}, last: map[string]int{}}
}

// take: P15.7, P15.9.
func (s *story) take(t *testing.T, c *sched.Client, key string) *stripe.Entry {
	picks := c.Picks()
	s.within++
	e := s.table.Take(c, key)
	s.within--
	if n := c.Picks() - picks; n > 7 {
		t.Errorf("Take in %d picks", n)
	}
	if e.Key() != key || e.Num() < s.last[key] {
		t.Errorf("Take of %s: %s %d, behind %d", key, e.Key(), e.Num(), s.last[key])
	}
	for _, other := range s.has[key] {
		if other != e {
			t.Errorf("%s: the entry %d, while another client has %d", key, e.Num(), other.Num())
		}
		s.shared++
	}
	s.has[key], s.last[key] = append(s.has[key], e), e.Num()
	return e
}

// drop: P15.8, P15.9.
func (s *story) drop(t *testing.T, c *sched.Client, e *stripe.Entry) {
	key, picks := e.Key(), c.Picks()
	s.has[key] = slices.Delete(s.has[key], 0, 1) // all that are had of a key are one
	s.within++
	s.table.Drop(c, e)
	s.within--
	if n := c.Picks() - picks; n > 6 {
		t.Errorf("Drop in %d picks", n)
	}
	for _, l := range s.has {
		if len(l) > 0 {
			return
		}
	}
	if s.within == 0 {
		s.empty++
		wantEntries(t, s.table, 0)
	}
}

// locked: P15.7: nobody else is inside meanwhile, whoever took the entry when.
func (s *story) locked(t *testing.T, c *sched.Client, e *stripe.Entry, work func()) {
	e.Lock(c)
	if s.inside[e.Key()]++; s.inside[e.Key()] != 1 {
		t.Errorf("%d clients have locked %s", s.inside[e.Key()], e.Key())
	}
	if work != nil {
		work()
	}
	s.inside[e.Key()]--
	e.Unlock(c)
}

// wantKept: P15.9, P15.10 of a trace: no client waits for a lock while it has a stripe's; a bucket is got under its stripe's lock, and set where that is held alone; nothing races. It tells how each client stands: which stripes it has.
func wantKept(t *testing.T, events []api.Event, clients int) []map[int]int {
	t.Helper()
	has := make([]map[int]int, clients)
	for i := range has {
		has[i] = map[int]int{}
	}
	for i, e := range events {
		mine, num := has[e.Client], e.Step.Num
		switch e.Step {
		case at(kindLock, objLock, num), at(kindRLock, objLock, num), at(kindLock, objLatch, num):
			if len(mine) > 0 {
				t.Errorf("event %d, %v, of a client that has %v", i, e, mine)
			}
			if e.Step.Obj == objLock {
				mine[num] = e.Step.Kind
			}
		case at(kindUnlock, objLock, num), at(kindRUnlock, objLock, num):
			if mine[num] != e.Step.Kind-kindUnlock+kindLock {
				t.Errorf("event %d, %v, of a client that has %v", i, e, mine)
			}
			delete(mine, num)
		case at(kindGet, objBucket, num):
			if mine[num] == 0 {
				t.Errorf("event %d, %v: without the stripe's lock", i, e)
			}
		case at(kindSet, objBucket, num):
			if mine[num] != kindLock {
				t.Errorf("event %d, %v: without the stripe's lock", i, e)
			}
		}
	}
	if races, e := clocks.Races(events, clients); len(races) != 0 || e != api.OK {
		t.Errorf("races %v, %d", races, e)
	}
	return has
}

// work is a client that takes some keys, locks them, adds to what is theirs, and drops them.
func (s *story) work(t *testing.T, d dice, keys []string, rounds int, sums map[string]int) client {
	return func(c *sched.Client) {
		for range rounds {
			mine := []string{keys[d.Intn(len(keys))], keys[d.Intn(len(keys))], keys[d.Intn(len(keys))]}[:d.Intn(3)+1]
			slices.Sort(mine)
			mine = slices.Compact(mine)
			add := func(key string) {
				was := sums[key]
				if d.Intn(2) == 0 {
					c.Step(api.Step{Kind: kindLoad, Obj: 99}, nil, nil)
				}
				sums[key] = was + 1
				sums["all"]++
			}
			if d.Intn(2) == 0 {
				s.nested(t, c, mine, add)
			} else {
				s.apart(t, d, c, mine, add)
			}
		}
	}
}

// nested takes and locks one behind the other, by rising keys, as whoever changes several documents does.
func (s *story) nested(t *testing.T, c *sched.Client, keys []string, add func(string)) {
	if len(keys) == 0 {
		return
	}
	e := s.take(t, c, keys[0])
	s.locked(t, c, e, func() {
		s.nested(t, c, keys[1:], add)
		add(keys[0])
	})
	s.drop(t, c, e)
}

// apart has all of them at one time, one twice, and locks one at a time.
func (s *story) apart(t *testing.T, d dice, c *sched.Client, keys []string, add func(string)) {
	var entries []*stripe.Entry
	for _, key := range append(keys, keys[0]) {
		entries = append(entries, s.take(t, c, key))
	}
	for len(entries) > 0 {
		i := d.Intn(len(entries))
		e := entries[i]
		s.locked(t, c, e, func() { add(e.Key()) })
		s.drop(t, c, e)
		entries = slices.Delete(entries, i, i+1)
	}
}

// P15.7 to P15.10: under every script, with several clients that have few keys between them.
func TestFollows(t *testing.T) {
	d := newDice(3)
	shared, empty := 0, 0
	for i := range 1500 {
		s := newStory(t, prim.Scripted(), []int{1, 1, 2, 3, maxStripeNum}[d.Intn(5)])
		keys := []string{"a", "b", "c", "d", "e", "f", "g", "h", "i", "j"}[:[]int{1, 2, 3, 10}[d.Intn(4)]]
		sums := map[string]int{}
		var bodies []client
		for range d.Intn(5) + 1 {
			bodies = append(bodies, s.work(t, d, keys, 8, sums))
		}
		r := mustEnd(t, bodies, d.script(4000)...)
		wantKept(t, r.Events, len(bodies))
		wantEntries(t, s.table, 0)
		sum := 0
		for _, key := range keys {
			sum += sums[key]
		}
		if sum != sums["all"] {
			t.Errorf("%d of %d", sum, sums["all"])
		}
		shared, empty = shared+s.shared, empty+s.empty
		if t.Failed() {
			t.Fatalf("run %d", i)
		}
	}
	if shared < 10000 || empty < 2000 {
		t.Errorf("%d Takes answered what another one had; %d times nobody had anything", shared, empty)
	}
}

// P15.9: wherever a run is cut off, a client that waits for a stripe waits for one that is ready, or that somebody has who is; and holds none. (A lock of which nobody holds anything is ready.)
func TestNobodyWaitsForAWaiter(t *testing.T) {
	d := newDice(4)
	waited := 0
	for range 6000 {
		s := newStory(t, prim.Scripted(), d.Intn(2)+1)
		var bodies []client
		for range 4 {
			bodies = append(bodies, s.work(t, d, []string{"a", "b"}, 50, map[string]int{}))
		}
		r := mustRun(t, bodies, d.script(d.Intn(300))...)
		has := wantKept(t, r.Events, len(bodies))
		if r.Stuck {
			t.Fatal("stuck")
		}
		for i, x := range r.Waits {
			if r.Ends[i] != wasStopped || x.Obj != objLock || x.Kind != kindLock && x.Kind != kindRLock {
				continue
			}
			if len(has[i]) > 0 {
				t.Errorf("client %d waits with %v, and has %v", i, x, has[i])
			}
			for other, mine := range has {
				held := mine[x.Num]
				if held == 0 || held == kindRLock && x.Kind == kindRLock {
					continue
				}
				waited++
				if next := r.Waits[other]; next.Kind == kindLock || next.Kind == kindRLock {
					t.Errorf("client %d waits with %v for client %d, who waits with %v", i, x, other, next)
				}
			}
		}
		if t.Failed() {
			t.FailNow()
		}
	}
	if waited < 1000 {
		t.Errorf("%d waited", waited)
	}
}

// Stripes do not get in one another's way: while one is held, a client goes on in all others.
func TestOtherStripes(t *testing.T) {
	for _, stripes := range []int{2, 5, maxStripeNum} {
		table := mustTable(t, prim.Scripted(), stripes)
		held := keysOf(0, stripes, 1)[0]
		body := func(c *sched.Client) { table.Take(c, held) }
		other := func(c *sched.Client) {
			for s := 1; s < stripes; s++ {
				e := table.Take(c, keysOf(s, stripes, 1)[0])
				e.Lock(c)
				e.Unlock(c)
				table.Drop(c, e)
			}
			table.Take(c, held)
		}
		// The first one holds its stripe behind 4 picks; then the other one is picked alone.
		script := append([]int{0, 0, 0, 0}, slices.Repeat([]int{1}, 15*(stripes-1))...)
		r := mustRun(t, []client{body, other}, script...)
		if r.Waits[0] != at(kindGet, objBucket, 0) || r.Waits[1] != at(kindRLock, objLock, 0) || r.Used != len(script) {
			t.Errorf("%d stripes: waits %v, %d used of %d", stripes, r.Waits, r.Used, len(script))
		}
	}
}

// Readers of one stripe go on beside one another: whoever finds its entry holds nobody up who does so too.
func TestReadersBeside(t *testing.T) {
	table := mustTable(t, prim.Scripted(), 1)
	table.Take(nil, "a")
	table.Take(nil, "b")
	body := func(key string) client { return func(c *sched.Client) { table.Take(c, key) } }
	bodies := []client{body("a"), body("b"), body("a")}
	r := mustRun(t, bodies, 0, 1, 2, 0, 1, 2, 0, 1, 2)
	for i, x := range r.Waits {
		if x != at(kindRUnlock, objLock, 0) {
			t.Errorf("client %d waits with %v", i, x)
		}
	}
}

// Rule 4: one value, on however many processors.
func TestOneValue(t *testing.T) {
	d := newDice(5)
	defer runtime.GOMAXPROCS(runtime.GOMAXPROCS(0))
	for range 100 {
		programs, script := d.programs(5, 12, 2, 6), d.script(d.Intn(300))
		var first string
		for i, n := range []int{1, 2, 4} {
			runtime.GOMAXPROCS(n)
			b, _ := twins(t, prim.Scripted(), 2, 1)
			told := fmt.Sprint(b.play(t, programs, script), b.lines, b.look())
			if i > 0 && told != first {
				t.Fatalf("%v under %v:\n%s\n%s", programs, script, told, first)
			}
			first = told
		}
	}
}
