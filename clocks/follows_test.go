package clocks_test

import (
	"slices"
	"testing"

	"docket/api"
	"docket/clocks"
	"docket/prim"
	"docket/sched"
)

// wantWords holds all answers of a trace against the chapter's words.
func wantWords(t *testing.T, l trace, clients int) *words {
	t.Helper()
	w := newWords(l)
	if c, want := mustClocks(t, l, clients), w.clocks(clients); !sameClocks(c, want) {
		t.Fatalf("%v of %d clients:\nclocks %v\nwant %v", l, clients, c, want)
	}
	if r, want := mustRaces(t, l, clients), w.races(); !slices.Equal(r, want) {
		t.Fatalf("%v of %d clients:\nraces %v\nwant %v", l, clients, r, want)
	}
	for j := range l {
		i, there := clocks.Sees(l, clients, j)
		if n, sees := w.sees(j); i != n || there != sees {
			t.Fatalf("%v: %d sees %d, %v; want %d, %v", l, j, i, there, n, sees)
		}
	}
	return w
}

// P11.1 to P11.4: any traces, whether locks may be so or not.
func TestWords(t *testing.T) {
	d := newDice(1)
	ahead, apart, racing, without := 0, 0, 0, 0
	for range 10000 {
		s := d.shape(24, 5, 6)
		l := d.trace(s)
		w := wantWords(t, l, s.clients)
		for j := range l {
			for i := range l {
				if clocks.Before(l, s.clients, i, j) != w.ahead[j][i] {
					t.Fatalf("%v: %d ahead of %d: want %v", l, i, j, w.ahead[j][i])
				}
				switch {
				case l[i].Client == l[j].Client || i >= j:
				case w.ahead[j][i]:
					ahead++
				default:
					apart++
				}
			}
		}
		if len(w.races()) > 0 {
			racing++
		} else {
			without++
		}
	}
	if ahead < 10000 || apart < 10000 || racing < 1000 || without < 1000 {
		t.Errorf("of unlike clients %d ahead, %d apart; %d traces with races, %d without", ahead, apart, racing, without)
	}
}

// P11.1 to P11.4: longer traces of up to all sixteen clients.
func TestWordsOfLongTraces(t *testing.T) {
	d := newDice(2)
	races := 0
	for range 60 {
		s := d.shape(400, maxClients, 12)
		races += len(wantWords(t, d.trace(s), s.clients).races())
	}
	if races < 1000 {
		t.Errorf("%d races only", races)
	}
}

// P11.1: every trace of two clients, a thing, and three events of any kinds.
func TestWordsOfShortTraces(t *testing.T) {
	const one = 2 * kindReturn
	for n := range one * one * one {
		var l trace
		for rest := n; len(l) < 3; rest /= one {
			l = append(l, by(rest%2, kindLock+rest%one/2, x))
		}
		wantWords(t, l, 2)
	}
}

// P11.5: an order; and what clocks say of it.
func TestAheadIsAnOrder(t *testing.T) {
	d := newDice(3)
	chains := 0
	for range 2000 {
		s := d.shape(24, 4, 2)
		l := d.trace(s)
		c := mustClocks(t, l, s.clients)
		asked := map[[2]int]bool{}
		for i := range l {
			for j := range l {
				asked[[2]int{i, j}] = clocks.Before(l, s.clients, i, j)
			}
		}
		before := func(i, j int) bool { return asked[[2]int{i, j}] }
		for i := range l {
			for j := range l {
				of := l[i].Client
				if before(i, j) != (i != j && c[j][of] >= c[i][of]) {
					t.Fatalf("%v: %d ahead of %d: %v; clocks %v, %v", l, i, j, before(i, j), c[i], c[j])
				}
				if !before(i, j) {
					continue
				}
				if before(j, i) || i >= j {
					t.Fatalf("%v: %d and %d are ahead of one another", l, i, j)
				}
				for k := range l {
					if before(j, k) && !before(i, k) {
						t.Fatalf("%v: %d ahead of %d, this of %d", l, i, j, k)
					}
					if before(j, k) && l[i].Client != l[j].Client && l[j].Client != l[k].Client && l[i].Client != l[k].Client {
						chains++
					}
				}
			}
		}
	}
	if chains < 1000 {
		t.Errorf("%d chains over three clients only", chains)
	}
}

// wantNotFree looks whether of each read of a trace without races all writes of that cell are in an order with it.
func wantNotFree(t *testing.T, l trace, clients int) (reads int) {
	t.Helper()
	c := mustClocks(t, l, clients)
	ahead := func(i, j int) bool { return i != j && c[j][l[i].Client] >= c[i][l[i].Client] }
	for j := range l {
		for i := range l {
			if !isOneOf(l[j], kindGet) || !isOneOf(l[i], kindSet) || !oneThing(l[i], l[j]) {
				continue
			}
			if i < j && !ahead(i, j) || i > j && !ahead(j, i) {
				t.Fatalf("%v: without races, but the read %d and the write %d are apart", l, j, i)
			}
			if l[i].Client != l[j].Client {
				reads++
			}
		}
	}
	return reads
}

// withoutRaces leaves out of a trace what would race with an event that it keeps.
func withoutRaces(t *testing.T, l trace, clients int) trace {
	t.Helper()
	var kept trace
	for _, e := range l {
		if with := append(slices.Clone(kept), e); len(mustRaces(t, with, clients)) == 0 {
			kept = with
		}
	}
	return kept
}

// P11.6: of traces in which nothing races.
func TestWithoutRaces(t *testing.T) {
	d := newDice(4)
	reads := 0
	for range 3000 {
		s := d.shape(100, 4, 2)
		reads += wantNotFree(t, withoutRaces(t, d.trace(s), s.clients), s.clients)
	}
	if reads < 1000 {
		t.Errorf("%d reads of what another wrote only", reads)
	}
}

// P11.7: of each beginning of a trace.
func TestBeginnings(t *testing.T) {
	d := newDice(5)
	for range 500 {
		s := d.shape(60, 6, 5)
		l := d.trace(s)
		c, r := mustClocks(t, l, s.clients), mustRaces(t, l, s.clients)
		for n := range l {
			if begun := mustClocks(t, l[:n], s.clients); !sameClocks(begun, c[:n]) {
				t.Fatalf("%v: %d events have the clocks %v; want %v", l, n, begun, c[:n])
			}
			behind := slices.IndexFunc(r, func(x race) bool { return x.Second >= n })
			if behind < 0 {
				behind = len(r)
			}
			if begun := mustRaces(t, l[:n], s.clients); !slices.Equal(begun, r[:behind]) {
				t.Fatalf("%v: %d events have the races %v; want %v", l, n, begun, r[:behind])
			}
		}
	}
}

// store is what the clients of a run share.
type store struct {
	mutex  *prim.Mutex
	rw     *prim.RWMutex
	other  *prim.Mutex
	count  *prim.Counter
	flag   *prim.Atomic[int]
	cells  [3]*prim.Cell[int]
	broken int // of a hundred accesses of cells, how many are without the lock
}

func newStore(broken int) *store {
	w := prim.Scripted()
	s := &store{mutex: w.Mutex(1, 0), rw: w.RWMutex(1, 1), other: w.Mutex(1, 2), count: w.Counter(2, 0, 0), flag: prim.NewAtomic(w, 2, 1, 0), broken: broken}
	for i := range s.cells {
		s.cells[i] = prim.NewCell(w, 3, i, 0)
	}
	return s
}

// body is a client that uses cells between hold and free, and beside that what has no part in the cells.
func (s *store) body(d dice, hold, free func(*sched.Client)) func(*sched.Client) {
	var acts []func(*sched.Client)
	for range 3 + d.Intn(4) {
		cell, writes, also := s.cells[d.Intn(len(s.cells))], d.Intn(2) == 0, d.Intn(4)
		alone := d.Intn(100) < s.broken
		acts = append(acts, func(c *sched.Client) {
			if !alone {
				hold(c)
				defer free(c)
			}
			s.beside(c, also)
			if writes {
				cell.Set(c, 1)
				return
			}
			cell.Get(c)
		})
	}
	return func(c *sched.Client) {
		for i, act := range acts {
			s.beside(c, i)
			act(c)
		}
	}
}

func (s *store) beside(c *sched.Client, what int) {
	switch what {
	case 0:
		s.count.Add(c, 1)
	case 1:
		s.flag.Store(c, 1)
	case 2:
		s.flag.Load(c)
	case 3:
		s.other.Lock(c)
		s.other.Unlock(c)
	}
}

// play runs some clients that take one lock each time they use a cell.
func play(d dice, broken int) (trace, int) {
	s := newStore(broken)
	hold, free := s.mutex.Lock, s.mutex.Unlock
	if d.Intn(2) == 0 {
		hold, free = s.rw.Lock, s.rw.Unlock
	}
	var bodies []func(*sched.Client)
	for range 2 + d.Intn(4) {
		bodies = append(bodies, s.body(d, hold, free))
	}
	var script []int
	for range d.Intn(200) {
		script = append(script, d.Intn(1000))
	}
	r, _ := sched.Run(bodies, script)
	return r.Events, len(bodies)
}

// P11.8: what is used under one lock alone does not race, whatever is done beside it; what is used without it may.
func TestUnderOneLock(t *testing.T) {
	d := newDice(6)
	uses, races := 0, 0
	for range 3000 {
		l, clients := play(d, 0)
		wantRaces(t, "under one lock", l, clients)
		uses += wantNotFree(t, l, clients)

		l, clients = play(d, 20)
		wantWords(t, l, clients)
		races += len(mustRaces(t, l, clients))
	}
	if uses < 10000 || races < 1000 {
		t.Errorf("%d reads of what another wrote, and %d races without the lock, only", uses, races)
	}
}

// P11.8: readers that share a lock and writers that hold it.
func TestReadersAndWriters(t *testing.T) {
	d := newDice(7)
	reads := 0
	for range 1000 {
		s := newStore(0)
		writer := func(c *sched.Client) {
			for i := range 6 {
				s.rw.Lock(c)
				s.cells[i%3].Set(c, i)
				s.rw.Unlock(c)
			}
		}
		reader := func(c *sched.Client) {
			for i := range 6 {
				s.rw.RLock(c)
				s.cells[i%3].Get(c)
				s.rw.RUnlock(c)
			}
		}
		var script []int
		for range 80 {
			script = append(script, d.Intn(1000))
		}
		r, e := sched.Run([]func(*sched.Client){writer, reader, writer, reader}, script)
		if e != api.OK {
			t.Fatal(e)
		}
		wantRaces(t, "readers and writers", r.Events, 4)
		reads += wantNotFree(t, r.Events, 4)
	}
	if reads < 10000 {
		t.Errorf("%d reads of what another wrote only", reads)
	}
}
