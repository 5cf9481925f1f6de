package prim_test

import (
	"fmt"
	"runtime"
	"slices"
	"sync/atomic"
	"testing"
	"time"

	"docket/prim"
	"docket/sched"
)

// P10.2: no call of a thing of a Real world is a step, whoever makes it.
func TestNoSteps(t *testing.T) {
	for _, x := range callsOf(prim.Real(), 1, 2) {
		r := mustRun(t, []client{x.do}, 0)
		if len(r.Events) != 0 || r.Ends[0] != hasEnded {
			t.Errorf("%s: %v", x.what, r)
		}
	}
}

// history is calls of a lock, one behind the other, of which each is ready.
type history []int

// all is every history of at most n calls.
func all(n int) []history {
	out := []history{nil}
	for at := 0; at < len(out); at++ {
		if len(out[at]) == n {
			break
		}
		for what := lockRW; what <= runlockRW; what++ {
			var s words
			h := append(slices.Clone(out[at]), what)
			fit := true
			for _, what := range h {
				fit = fit && s.ready(act{what: what})
				s.act(act{what: what})
			}
			if fit {
				out = append(out, h)
			}
		}
	}
	return out
}

// P10.2: Lock and RLock wait just as long as they are not ready, whatever was called ahead: Unlocks of what is not held too.
func TestWhoWaits(t *testing.T) {
	type guest struct {
		h    history
		what int
		s    words
		m    *prim.RWMutex
		in   chan struct{}
	}
	var guests []*guest
	for _, h := range all(5) {
		for _, what := range []int{lockRW, rlockRW} {
			g := &guest{h: h, what: what, m: prim.Real().RWMutex(1, 1)}
			real := &things{rws: [several]*prim.RWMutex{g.m}}
			mustEnd(t, fmt.Sprint(h), begin(func() {
				for _, what := range h {
					g.s.act(act{what: what})
					real.act(nil, act{what: what})
				}
			}))
			g.in = begin(func() { real.act(nil, act{what: what}) })
			guests = append(guests, g)
		}
	}
	time.Sleep(2 * aWhile)
	waited := 0
	for _, g := range guests {
		if g.s.ready(act{what: g.what}) {
			mustEnd(t, fmt.Sprint(g.h, g.what), g.in)
			continue
		}
		waited++
		if hasCome(g.in) {
			t.Errorf("behind %v, %d did not wait", g.h, g.what)
		}
		g.m.Unlock(nil)
		if g.what == lockRW {
			for i := range g.s.rws[0].readers {
				if i == g.s.rws[0].readers-1 && hasCome(g.in) {
					t.Errorf("behind %v, it did not wait for the last reader", g.h)
				}
				g.m.RUnlock(nil)
			}
		}
		mustEnd(t, fmt.Sprint(g.h, g.what), g.in)
	}
	if waited < 100 || len(guests)-waited < 100 {
		t.Errorf("%d of %d waited", waited, len(guests))
	}
}

// P10.2: a mutex.
func TestRealMutex(t *testing.T) {
	m := prim.Real().Mutex(1, 1)
	m.Unlock(nil)
	m.Unlock(nil)
	lock := func() { m.Lock(nil) }
	mustEnd(t, "Lock of a free one", begin(lock))
	second := begin(lock)
	mustWait(t, "Lock of one that is held", second)
	m.Unlock(nil) // by another goroutine than it was held by
	mustEnd(t, "Lock, behind the Unlock", second)
	third := begin(lock)
	mustWait(t, "Lock of one that is held again", third)
	mustEnd(t, "Unlock", begin(func() { m.Unlock(nil) }))
	mustEnd(t, "Lock, behind the second Unlock", third)
	m.Unlock(nil)
	m.Unlock(nil)
	mustEnd(t, "Lock, behind two Unlocks", begin(lock))
	fourth := begin(lock)
	mustWait(t, "Lock, though there was one Unlock too many", fourth)
	m.Unlock(nil)
	mustEnd(t, "the last Lock", fourth)
}

// P10.2: RLock waits while it is held, and no longer: not for one that waits to hold it.
func TestReadersDoNotWaitForWhoWaits(t *testing.T) {
	m := prim.Real().RWMutex(1, 1)
	m.RLock(nil)
	writer := begin(func() { m.Lock(nil) })
	mustWait(t, "Lock beside a reader", writer)
	for i := range 3 {
		mustEnd(t, fmt.Sprint("reader ", i+2), begin(func() { m.RLock(nil) }))
	}
	for range 3 {
		m.RUnlock(nil)
	}
	mustWait(t, "Lock beside one reader that is left", writer)
	m.RUnlock(nil)
	mustEnd(t, "Lock without readers", writer)
	reader, other := begin(func() { m.RLock(nil) }), begin(func() { m.RLock(nil) })
	mustWait(t, "RLock beside one that holds it", reader)
	mustWait(t, "a second RLock", other)
	m.Unlock(nil)
	mustEnd(t, "RLock behind the Unlock", reader)
	mustEnd(t, "the second RLock", other)
}

// P10.2: an Unlock never waits, whoever waits meanwhile.
func TestUnlocksDoNotWait(t *testing.T) {
	m := prim.Real().RWMutex(1, 1)
	m.Lock(nil)
	waiting := []chan struct{}{begin(func() { m.RLock(nil) }), begin(func() { m.RLock(nil) })}
	mustWait(t, "RLock", waiting[0])
	mustEnd(t, "RUnlock of what has no readers", begin(func() { m.RUnlock(nil) }))
	mustEnd(t, "Unlock", begin(func() { m.Unlock(nil) }))
	mustEnd(t, "the first", waiting[0])
	mustEnd(t, "the second", waiting[1])
	writer := begin(func() { m.Lock(nil) })
	mustWait(t, "Lock beside readers", writer)
	mustEnd(t, "Unlock of what is not held", begin(func() { m.Unlock(nil) }))
	mustWait(t, "Lock beside readers still", writer)
	mustEnd(t, "RUnlock", begin(func() { m.RUnlock(nil); m.RUnlock(nil) }))
	mustEnd(t, "Lock", writer)
}

// P10.2: several readers are there at one time.
func TestReadersShare(t *testing.T) {
	const n = 20
	m := prim.Real().RWMutex(1, 1)
	there, all := make(chan int), make(chan struct{})
	var bodies []func()
	for range n {
		bodies = append(bodies, func() {
			m.RLock(nil)
			defer m.RUnlock(nil)
			there <- 1
			<-all
		})
	}
	done := begin(func() { prim.Beside(bodies) })
	mustEnd(t, "readers that wait for each other", begin(func() {
		for range n {
			<-there
		}
	}))
	close(all)
	mustEnd(t, "readers", done)
	mustEnd(t, "Lock behind them", begin(func() { m.Lock(nil) }))
}

// P10.2: however many unlock too much, no call panics, and all end.
func TestTooManyUnlocks(t *testing.T) {
	w := prim.Real()
	m, rw := w.Mutex(1, 1), w.RWMutex(1, 2)
	ended := w.Counter(1, 3, 0)
	var bodies []func()
	for range 8 {
		bodies = append(bodies, func() {
			for i := range 500 {
				m.Lock(nil)
				m.Unlock(nil)
				m.Unlock(nil)
				if i%3 == 0 {
					rw.Lock(nil)
				} else {
					rw.RLock(nil)
				}
				rw.RUnlock(nil)
				rw.Unlock(nil)
				rw.RUnlock(nil)
				runtime.Gosched()
			}
			ended.Add(nil, 1)
		})
	}
	mustEnd(t, "bodies that unlock too much", begin(func() { prim.Beside(bodies) }))
	if ended.Read(nil) != 8 {
		t.Errorf("%d of 8 ended", ended.Read(nil))
	}
}

// P10.8, on several numbers of processors.
func TestAddsBesideOneAnother(t *testing.T) {
	defer runtime.GOMAXPROCS(runtime.GOMAXPROCS(0))
	for _, procs := range []int{1, 2, 8} {
		runtime.GOMAXPROCS(procs)
		for _, x := range []struct{ n, k int }{{0, 5}, {1, 1000}, {2, 10000}, {16, 2000}, {100, 200}} {
			w := prim.Real()
			m, rw := w.Mutex(1, 1), w.RWMutex(1, 2)
			a, b, n := prim.NewCell(w, 2, 1, 7), prim.NewCell(w, 2, 2, 7), w.Counter(3, 1, 7)
			var bodies []func()
			for range x.n {
				bodies = append(bodies, func() {
					for range x.k {
						m.Lock(nil)
						a.Set(nil, a.Get(nil)+1)
						m.Unlock(nil)
						rw.Lock(nil)
						b.Set(nil, b.Get(nil)+1)
						rw.Unlock(nil)
						n.Add(nil, 1)
					}
				})
			}
			mustEnd(t, "adding", begin(func() { prim.Beside(bodies) }))
			if want := 7 + x.n*x.k; a.Get(nil) != want || b.Get(nil) != want || n.Read(nil) != int64(want) {
				t.Errorf("%d times %d: %d, %d, %d; want %d", x.n, x.k, a.Get(nil), b.Get(nil), n.Read(nil), want)
			}
		}
	}
}

// P10.8: readers never see two halves apart, nor does a writer, however they run.
func TestHalvesBesideOneAnother(t *testing.T) {
	defer runtime.GOMAXPROCS(runtime.GOMAXPROCS(0))
	for _, procs := range []int{1, 2, 8} {
		runtime.GOMAXPROCS(procs)
		w := prim.Real()
		m, a, b := w.RWMutex(1, 1), prim.NewCell(w, 2, 1, 0), prim.NewCell(w, 2, 2, 0)
		var apart, reads, writes atomic.Int64
		reader := func() {
			for range 5000 {
				m.RLock(nil)
				x := a.Get(nil)
				runtime.Gosched()
				if y := b.Get(nil); x != y {
					apart.Add(1)
				}
				m.RUnlock(nil)
				reads.Add(1)
			}
		}
		writer := func() {
			for range 1000 {
				m.Lock(nil)
				x := a.Get(nil) + 1
				a.Set(nil, x)
				runtime.Gosched()
				b.Set(nil, x)
				m.Unlock(nil)
				writes.Add(1)
				runtime.Gosched()
			}
		}
		bodies := []func(){reader, writer, reader, writer, reader, writer, reader}
		mustEnd(t, "readers and writers", begin(func() { prim.Beside(bodies) }))
		if apart.Load() != 0 || reads.Load() != 20000 || writes.Load() != 3000 || a.Get(nil) != 3000 || b.Get(nil) != 3000 {
			t.Errorf("%d of %d reads saw the halves apart; %d writes made %d and %d", apart.Load(), reads.Load(), writes.Load(), a.Get(nil), b.Get(nil))
		}
	}
}

// P10.2: of several Adds each is told what it made: no two the same.
func TestAddsAreToldApart(t *testing.T) {
	const bodies, times = 8, 20000
	n := prim.Real().Counter(1, 1, -5)
	var told [bodies][]int64
	var all []func()
	for i := range bodies {
		all = append(all, func() {
			for range times {
				told[i] = append(told[i], n.Add(nil, 1))
			}
		})
	}
	prim.Beside(all)
	var whole []int64
	for _, part := range told {
		if !slices.IsSorted(part) {
			t.Error("what one body was told does not rise")
		}
		whole = append(whole, part...)
	}
	slices.Sort(whole)
	for i, got := range whole {
		if got != int64(i)-4 {
			t.Fatalf("the Add number %d was told %d", i, got)
		}
	}
}

// P10.2: an atomic is loaded and stored as a whole.
func TestAtomicsAreWhole(t *testing.T) {
	type wide [16]int
	a := prim.NewAtomic(prim.Real(), 1, 1, wide{})
	var torn atomic.Int64
	var all []func()
	for i := range 4 {
		all = append(all, func() {
			var v wide
			for range 20000 {
				for j := range v {
					v[j] += i
				}
				a.Store(nil, v)
			}
		}, func() {
			for range 20000 {
				v := a.Load(nil)
				for _, x := range v {
					if x != v[0] {
						torn.Add(1)
					}
				}
			}
		})
	}
	prim.Beside(all)
	if torn.Load() != 0 {
		t.Errorf("%d were torn", torn.Load())
	}
}

// P10.2: sequentially consistent: of two that each store and then load what the other one stores, at least one sees it.
func TestOneOrder(t *testing.T) {
	w := prim.Real()
	neither := 0
	for range 3000 {
		a, b := prim.NewAtomic(w, 1, 1, 0), prim.NewAtomic(w, 1, 2, 0)
		n, k := w.Counter(1, 3, 0), w.Counter(1, 4, 0)
		var seen [2]int
		var read [2]int64
		prim.Beside([]func(){
			func() { a.Store(nil, 1); seen[0] = b.Load(nil); n.Add(nil, 1); read[0] = k.Read(nil) },
			func() { b.Store(nil, 1); seen[1] = a.Load(nil); k.Add(nil, 1); read[1] = n.Read(nil) },
		})
		if seen == [2]int{} || read == [2]int64{} {
			neither++
		}
	}
	if neither != 0 {
		t.Errorf("%d times neither saw the other", neither)
	}
}

// P10.2: whoever stands behind an atomic that says so may get a cell without a lock.
func TestBehindAnAtomic(t *testing.T) {
	w := prim.Real()
	for range 500 {
		x, flag, n := prim.NewCell(w, 1, 1, "old"), prim.NewAtomic(w, 1, 2, false), w.Counter(1, 3, 0)
		var seen [2]string
		mustEnd(t, "those that look for it", begin(func() {
			prim.Beside([]func(){
				func() { x.Set(nil, "new"); flag.Store(nil, true); n.Add(nil, 1) },
				func() {
					for !flag.Load(nil) {
						runtime.Gosched()
					}
					seen[0] = x.Get(nil)
				},
				func() {
					for n.Read(nil) == 0 {
						runtime.Gosched()
					}
					seen[1] = x.Get(nil)
				},
			})
		}))
		if seen != [2]string{"new", "new"} {
			t.Fatalf("%v", seen)
		}
	}
}

// P10.2: things of one Real world have nothing to do with each other, whatever their obj and num.
func TestRealThingsApart(t *testing.T) {
	w := prim.Real()
	m, rw := w.Mutex(1, 1), w.RWMutex(1, 1)
	m.Lock(nil)
	rw.Lock(nil)
	mustEnd(t, "other locks", begin(func() {
		w.Mutex(1, 1).Lock(nil)
		w.RWMutex(1, 1).Lock(nil)
		w.RWMutex(1, 1).RLock(nil)
		prim.Real().Mutex(1, 1).Lock(nil)
	}))
}

// P10.2: a client of a run that calls things of a Real world is not one that takes steps there: what its run does goes on beside it.
func TestRealThingsWithinARun(t *testing.T) {
	real, scripted := prim.Real(), prim.Scripted()
	x, n := prim.NewCell(real, 1, 1, 0), scripted.Counter(2, 2, 0)
	body := func(c *sched.Client) {
		for range 3 {
			x.Set(c, x.Get(c)+1)
			n.Add(c, 1)
		}
	}
	r := mustRun(t, []client{body, body}, 0, 1, 0, 1, 0, 1)
	for _, e := range r.Events {
		if e.Step.Kind != kindAdd || e.Step.Obj != 2 {
			t.Errorf("%v", e)
		}
	}
	if len(r.Events) != 6 || x.Get(nil) != 6 || n.Read(nil) != 6 {
		t.Errorf("%d, %d: %v", x.Get(nil), n.Read(nil), r)
	}
}
