package prim_test

import (
	"testing"

	"docket/prim"
	"docket/sched"
)

// P10.4.
func TestIsReal(t *testing.T) {
	var none *prim.World
	if none.IsReal() || prim.Scripted().IsReal() || !prim.Real().IsReal() {
		t.Errorf("%v %v %v", none.IsReal(), prim.Scripted().IsReal(), prim.Real().IsReal())
	}
	real := prim.Real()
	prim.Scripted()
	if !real.IsReal() || prim.Scripted() == nil {
		t.Error("one world makes another one of its kind")
	}
}

// P10.4: things that are made in a nil World are of a Scripted one.
func TestNilWorld(t *testing.T) {
	var none *prim.World
	m, rw, n := none.Mutex(1, 2), none.RWMutex(3, 4), none.Counter(5, 6, 7)
	a, x := prim.NewAtomic(none, 7, 8, "a"), prim.NewCell(none, 9, 10, "x")
	body := func(c *sched.Client) {
		m.Lock(c)
		rw.RLock(c)
		if n.Add(c, 1) != 8 || a.Load(c) != "a" || x.Get(c) != "x" {
			t.Error("they are not as they were made")
		}
		m.Lock(c)
	}
	r := mustRun(t, []client{body}, 0, 0, 0, 0, 0, 0)
	wantEvents(t, r, event(0, kindLock, 1, 2), event(0, kindRLock, 3, 4), event(0, kindAdd, 5, 6), event(0, kindLoad, 7, 8), event(0, kindGet, 9, 10))
	if !r.Stuck {
		t.Errorf("%v", r)
	}
	m.Lock(nil)
	rw.Lock(nil)
	if stateOf(t, rw) != (state{true, 1}) {
		t.Errorf("%v", stateOf(t, rw))
	}
}

// P10.4: nil things: nothing is done, no step is taken, zero values are told.
func TestNilThings(t *testing.T) {
	var m *prim.Mutex
	var rw *prim.RWMutex
	var n *prim.Counter
	var a *prim.Atomic[string]
	var x *prim.Cell[[]int]
	body := func(c *sched.Client) {
		for range 2 {
			m.Lock(c)
			rw.Lock(c)
			rw.RLock(c)
		}
		if n.Add(c, 5) != 0 || n.Read(c) != 0 {
			t.Errorf("%d, %d", n.Add(c, 5), n.Read(c))
		}
		a.Store(c, "a")
		x.Set(c, []int{1})
		if a.Load(c) != "" || x.Get(c) != nil {
			t.Errorf("%q, %v", a.Load(c), x.Get(c))
		}
		for range 2 {
			m.Unlock(c)
			rw.Unlock(c)
			rw.RUnlock(c)
		}
	}
	r := mustRun(t, []client{body, body}, 0, 0, 0)
	if len(r.Events) != 0 || r.Ends[0] != hasEnded || r.Ends[1] != hasEnded || r.Stuck {
		t.Errorf("%v", r)
	}
	body(nil)
	var deep *prim.Atomic[any]
	var err *prim.Cell[error]
	if deep.Load(nil) != nil || err.Get(nil) != nil {
		t.Errorf("%v, %v", deep.Load(nil), err.Get(nil))
	}
}
