package prim_test

import (
	"errors"
	"fmt"
	"math"
	"slices"
	"testing"

	"docket/api"
	"docket/prim"
	"docket/sched"
)

// 10.5, 1.
func TestExampleOfTwoClients(t *testing.T) {
	w := prim.Scripted()
	m, x := w.Mutex(3, 4), prim.NewCell(w, 5, 6, 0)
	body := func(c *sched.Client) {
		m.Lock(c)
		x.Set(c, 1)
		m.Unlock(c)
	}
	r := mustRun(t, []client{body, body}, 0, 1, 0, 0, 1, 1, 1)
	wantEvents(t, r,
		event(0, kindLock, 3, 4), event(0, kindSet, 5, 6), event(0, kindUnlock, 3, 4),
		event(1, kindLock, 3, 4), event(1, kindSet, 5, 6), event(1, kindUnlock, 3, 4))
	if r.Stuck || !slices.Equal(r.Ends, []int{hasEnded, hasEnded}) || x.Get(nil) != 1 {
		t.Errorf("%v, %d", r, x.Get(nil))
	}
}

// 10.5, 2.
func TestExampleOfALockTwice(t *testing.T) {
	w := prim.Scripted()
	m, rw := w.Mutex(3, 4), w.RWMutex(5, 6)
	for what, x := range map[string]struct {
		first, second client
		waits         api.Step
	}{
		"Mutex":                {m.Lock, m.Lock, api.Step{Kind: kindLock, Obj: 3, Num: 4}},
		"RWMutex":              {rw.Lock, rw.Lock, api.Step{Kind: kindLock, Obj: 5, Num: 6}},
		"RWMutex, then shared": {rw.Lock, rw.RLock, api.Step{Kind: kindRLock, Obj: 5, Num: 6}},
		"RWMutex, shared":      {rw.RLock, rw.Lock, api.Step{Kind: kindLock, Obj: 5, Num: 6}},
	} {
		r := mustRun(t, []client{func(c *sched.Client) { x.first(c); x.second(c) }}, 0, 0, 0)
		if !r.Stuck || r.Used != 1 || r.Waits[0] != x.waits {
			t.Errorf("%s: %v", what, r)
		}
		m.Unlock(nil)
		rw.Unlock(nil)
		rw.RUnlock(nil)
	}
}

// 10.5, 3, and other sums that do not fit.
func TestExampleOfACounter(t *testing.T) {
	for _, x := range []struct{ n, d, want int64 }{
		{math.MaxInt64, 5, math.MinInt64 + 4},
		{math.MaxInt64, 1, math.MinInt64},
		{math.MaxInt64, math.MaxInt64, -2},
		{math.MinInt64, -1, math.MaxInt64},
		{math.MinInt64, math.MinInt64, 0},
		{math.MinInt64, math.MaxInt64, -1},
		{0, 0, 0}, {0, 7, 7}, {3, -7, -4}, {-3, 3, 0}, {0, math.MinInt64, math.MinInt64},
	} {
		for _, w := range []*prim.World{prim.Scripted(), prim.Real(), nil} {
			n := w.Counter(1, 2, x.n)
			if got := n.Add(nil, x.d); got != x.want || n.Read(nil) != x.want {
				t.Errorf("%d and %d: %d, then %d; want %d", x.n, x.d, got, n.Read(nil), x.want)
			}
		}
	}
}

// 10.5, 4.
func TestExampleOfWhatIsNotHeld(t *testing.T) {
	w := prim.Scripted()
	m, rw := w.Mutex(3, 4), w.RWMutex(5, 6)
	body := func(c *sched.Client) {
		m.Unlock(c)
		rw.RUnlock(c)
		rw.Unlock(c)
	}
	r := mustRun(t, []client{body}, 0, 0, 0)
	wantEvents(t, r, event(0, kindUnlock, 3, 4), event(0, kindRUnlock, 5, 6), event(0, kindUnlock, 5, 6))
	if !isReady(t, m.Lock) || stateOf(t, rw) != (state{}) {
		t.Error("something has changed")
	}
}

// The kinds of steps are those that the chapter lists.
func TestKinds(t *testing.T) {
	got := []int{api.StepLock, api.StepUnlock, api.StepRLock, api.StepRUnlock, api.StepLoad, api.StepStore, api.StepAdd, api.StepGet, api.StepSet, api.StepCall, api.StepReturn}
	if !slices.Equal(got, []int{1, 2, 3, 4, 5, 6, 7, 8, 9, 10, 11}) {
		t.Errorf("%v", got)
	}
}

type call struct {
	what string
	kind int
	do   client
}

// callsOf is a call of each kind, each of a thing of its own with this obj and num.
func callsOf(w *prim.World, obj, num int) []call {
	n, a, x := w.Counter(obj, num, 0), prim.NewAtomic(w, obj, num, "a"), prim.NewCell(w, obj, num, 1.5)
	return []call{
		{"Mutex Lock", kindLock, w.Mutex(obj, num).Lock},
		{"Mutex Unlock", kindUnlock, w.Mutex(obj, num).Unlock},
		{"RWMutex Lock", kindLock, w.RWMutex(obj, num).Lock},
		{"RWMutex Unlock", kindUnlock, w.RWMutex(obj, num).Unlock},
		{"RWMutex RLock", kindRLock, w.RWMutex(obj, num).RLock},
		{"RWMutex RUnlock", kindRUnlock, w.RWMutex(obj, num).RUnlock},
		{"Counter Add", kindAdd, func(c *sched.Client) { n.Add(c, 1) }},
		{"Counter Read", kindLoad, func(c *sched.Client) { n.Read(c) }},
		{"Atomic Load", kindLoad, func(c *sched.Client) { a.Load(c) }},
		{"Atomic Store", kindStore, func(c *sched.Client) { a.Store(c, "b") }},
		{"Cell Get", kindGet, func(c *sched.Client) { x.Get(c) }},
		{"Cell Set", kindSet, func(c *sched.Client) { x.Set(c, 2.5) }},
	}
}

// P10.1: each call is one step, with its kind and the thing's Obj and Num, whatever these are.
func TestEachCallIsOneStep(t *testing.T) {
	for _, at := range [][2]int{{1, 2}, {0, 0}, {-3, 7}, {7, -3}, {math.MaxInt, math.MinInt}, {math.MinInt, math.MaxInt}} {
		for _, w := range []*prim.World{prim.Scripted(), nil} {
			for _, x := range callsOf(w, at[0], at[1]) {
				want := api.Step{Kind: x.kind, Obj: at[0], Num: at[1]}
				r := mustRun(t, []client{nil, x.do})
				if len(r.Events) != 0 || r.Ends[1] != wasStopped || r.Waits[1] != want || r.Stuck {
					t.Errorf("%s of %v, not picked: %v", x.what, at, r)
				}
				r = mustRun(t, []client{nil, x.do}, 0, 0)
				if r.Ends[1] != hasEnded || len(r.Notes) != 0 {
					t.Errorf("%s of %v: %v", x.what, at, r)
				}
				wantEvents(t, r, api.Event{Client: 1, Step: want})
			}
		}
	}
}

// P10.1: of a lock, in whatever state: who is ready, and what is done.
func TestLocks(t *testing.T) {
	for _, x := range []struct {
		was                state
		lock, rlock        bool
		onLock, onUnlock   state
		onRLock, onRUnlock state
	}{
		{state{false, 0}, true, true, state{true, 0}, state{false, 0}, state{false, 1}, state{false, 0}},
		{state{false, 1}, false, true, state{true, 1}, state{false, 1}, state{false, 2}, state{false, 0}},
		{state{false, 2}, false, true, state{true, 2}, state{false, 2}, state{false, 3}, state{false, 1}},
		{state{false, 9}, false, true, state{true, 9}, state{false, 9}, state{false, 10}, state{false, 8}},
		{state{true, 0}, false, false, state{true, 0}, state{false, 0}, state{true, 1}, state{true, 0}},
		{state{true, 1}, false, false, state{true, 1}, state{false, 1}, state{true, 2}, state{true, 0}},
		{state{true, 5}, false, false, state{true, 5}, state{false, 5}, state{true, 6}, state{true, 4}},
	} {
		for what, y := range map[string]struct {
			call  func(*prim.RWMutex, *sched.Client)
			ready bool
			want  state
		}{
			"Lock":    {(*prim.RWMutex).Lock, x.lock, x.onLock},
			"Unlock":  {(*prim.RWMutex).Unlock, true, x.onUnlock},
			"RLock":   {(*prim.RWMutex).RLock, x.rlock, x.onRLock},
			"RUnlock": {(*prim.RWMutex).RUnlock, true, x.onRUnlock},
		} {
			m := prim.Scripted().RWMutex(1, 1)
			x.was.lay(m)
			call := func(c *sched.Client) { y.call(m, c) }
			if got := isReady(t, call); got != y.ready {
				t.Errorf("%s, %v: ready %v", what, x.was, got)
			}
			if got := stateOf(t, m); got != x.was {
				t.Errorf("%s, %v, not picked: %v", what, x.was, got)
			}
			if r := mustRun(t, []client{call}, 0); r.Used == 1 != y.ready || r.Stuck == y.ready {
				t.Errorf("%s, %v: %v", what, x.was, r)
			}
			if got := stateOf(t, m); y.ready && got != y.want || !y.ready && got != x.was {
				t.Errorf("%s, %v: %v; want %v", what, x.was, got, y.want)
			}
			if !y.ready {
				call(nil)
				if got := stateOf(t, m); got != y.want {
					t.Errorf("%s, %v, by nobody: %v; want %v", what, x.was, got, y.want)
				}
			}
		}
	}
}

// P10.1: a mutex.
func TestMutex(t *testing.T) {
	m := prim.Scripted().Mutex(1, 1)
	want := func(free bool) {
		t.Helper()
		if isReady(t, m.Lock) != free || !isReady(t, m.Unlock) {
			t.Errorf("free: %v; Unlock is ready: %v", !free, isReady(t, m.Unlock))
		}
	}
	want(true)
	mustRun(t, []client{m.Lock}, 0)
	want(false)
	mustRun(t, []client{nil, nil, m.Unlock}, 0) // another one than it was held by
	want(true)
	mustRun(t, []client{m.Unlock}, 0)
	want(true)
	mustRun(t, []client{m.Lock}, 0)
	want(false)
	mustRun(t, []client{m.Unlock, m.Unlock}, 0, 0)
	want(true)
}

// P10.1: with a nil Client it is done at once, whether it is ready or not.
func TestByNobody(t *testing.T) {
	w := prim.Scripted()
	m, rw := w.Mutex(1, 1), w.RWMutex(1, 2)
	for range 3 {
		m.Lock(nil)
		rw.Lock(nil)
		rw.RLock(nil)
	}
	if isReady(t, m.Lock) || stateOf(t, rw) != (state{true, 3}) {
		t.Errorf("%v", stateOf(t, rw))
	}
	m.Unlock(nil)
	rw.Unlock(nil)
	if !isReady(t, m.Lock) || stateOf(t, rw) != (state{false, 3}) {
		t.Errorf("%v", stateOf(t, rw))
	}
	for range 5 {
		rw.RUnlock(nil)
	}
	if stateOf(t, rw) != (state{}) {
		t.Errorf("%v", stateOf(t, rw))
	}
	within := mustRun(t, []client{func(*sched.Client) {
		for _, x := range callsOf(w, 1, 1) {
			x.do(nil)
		}
	}}, 0, 0)
	if len(within.Events) != 0 || within.Ends[0] != hasEnded {
		t.Errorf("a nil client within a run: %v", within)
	}
}

// holds looks whether an atomic and a cell, in every world, keep and tell each of the values.
func holds[T any](t *testing.T, same func(a, b T) bool, all ...T) {
	t.Helper()
	for _, w := range []*prim.World{prim.Scripted(), prim.Real(), nil} {
		for i, v := range all {
			a, x := prim.NewAtomic(w, 1, 1, v), prim.NewCell(w, 2, 2, v)
			if !same(a.Load(nil), v) || !same(x.Get(nil), v) {
				t.Errorf("at first value %d of %T", i, all)
			}
			for j, u := range all {
				a.Store(nil, u)
				x.Set(nil, u)
				if !same(a.Load(nil), u) || !same(x.Get(nil), u) || !same(a.Load(nil), u) || !same(x.Get(nil), u) {
					t.Errorf("value %d of %T, then value %d", i, all, j)
				}
			}
		}
	}
}

func equal[T comparable](a, b T) bool { return a == b }

// P10.1: values of any type.
func TestValues(t *testing.T) {
	holds(t, equal, 0, 1, -1, math.MaxInt, math.MinInt)
	holds(t, equal, "", "a", "\xff\x00", string(make([]byte, 100000)))
	holds(t, equal, true, false)
	holds(t, equal, 1.5, math.Inf(1), 0)
	holds(t, equal, struct{}{})
	holds(t, equal, [3]string{}, [3]string{"a", "b"})
	holds(t, equal, api.Step{}, api.Step{Kind: 1, Obj: 2, Num: 3})
	holds[*int](t, equal, nil, new(int), new(int))
	holds[any](t, equal, nil, 1, "a", 1.5, api.Step{}, (*int)(nil), errors.New("e"))
	holds[error](t, equal, nil, errors.New("a"), error(fault("b")))
	holds(t, slices.Equal, nil, []int{}, []int{1}, []int{2, 3})
	holds(t, func(a, b map[string]int) bool { return len(a) == len(b) }, nil, map[string]int{"a": 1})
	holds(t, func(a, b func() int) bool { return a == nil && b == nil || a() == b() }, nil, func() int { return 1 }, func() int { return 2 })
}

type fault string

func (f fault) Error() string { return string(f) }

// P10.1: what is stored is the value as it was then, however it came there.
func TestStoredAsItWas(t *testing.T) {
	for _, w := range []*prim.World{prim.Scripted(), prim.Real()} {
		v := [2]int{1, 2}
		a, x := prim.NewAtomic(w, 1, 1, v), prim.NewCell(w, 1, 1, v)
		v[0] = 7
		got := a.Load(nil)
		got[1] = 8
		also := x.Get(nil)
		also[1] = 9
		if a.Load(nil) != [2]int{1, 2} || x.Get(nil) != [2]int{1, 2} {
			t.Errorf("%v, %v", a.Load(nil), x.Get(nil))
		}
		a.Store(nil, v)
		x.Set(nil, v)
		v[0] = 6
		if a.Load(nil) != [2]int{7, 2} || x.Get(nil) != [2]int{7, 2} {
			t.Errorf("%v, %v", a.Load(nil), x.Get(nil))
		}
	}
}

// P10.1: a thing changes when the step is picked, and what is answered is what it is then: not what it was when the call began.
func TestWhenItIsDone(t *testing.T) {
	for _, x := range []struct {
		script []int
		want   string
	}{
		{[]int{0, 0, 0, 0, 0, 0}, "[1 b b 1]"},
		{[]int{1, 1, 1, 0, 0, 0}, "[0 a a 1]"},
		{[]int{0, 1, 0, 1, 0, 1}, "[1 b b 1]"},
		{[]int{1, 0, 1, 0, 1, 0}, "[0 a a 1]"},
		{[]int{0, 1, 1, 1, 0, 0}, "[1 a a 1]"},
		{[]int{0, 0, 1, 1, 1, 0}, "[1 b a 1]"},
	} {
		w := prim.Scripted()
		n, a, y := w.Counter(1, 1, 0), prim.NewAtomic(w, 1, 2, "a"), prim.NewCell(w, 1, 3, "a")
		var told [4]any
		writer := func(c *sched.Client) {
			told[3] = n.Add(c, 1)
			a.Store(c, "b")
			y.Set(c, "b")
		}
		reader := func(c *sched.Client) {
			told[0] = n.Read(c)
			told[1] = a.Load(c)
			told[2] = y.Get(c)
		}
		mustRun(t, []client{writer, reader}, x.script...)
		if got := fmt.Sprint(told); got != x.want {
			t.Errorf("%v: %s; want %s", x.script, got, x.want)
		}
	}
}

// P10.1: a client that is stopped has done nothing with its last call.
func TestStopped(t *testing.T) {
	w := prim.Scripted()
	n, a, x := w.Counter(1, 1, 5), prim.NewAtomic(w, 1, 1, "a"), prim.NewCell(w, 1, 1, "a")
	bodies := []client{
		func(c *sched.Client) { n.Add(c, 1) },
		func(c *sched.Client) { a.Store(c, "b") },
		func(c *sched.Client) { x.Set(c, "b") },
	}
	mustRun(t, bodies)
	if n.Read(nil) != 5 || a.Load(nil) != "a" || x.Get(nil) != "a" {
		t.Errorf("%d %s %s", n.Read(nil), a.Load(nil), x.Get(nil))
	}
}

// P10.1: an Unlock that is deferred is a step like others: a client that is stopped does not take it.
func TestStoppedHolder(t *testing.T) {
	w := prim.Scripted()
	m, rw := w.Mutex(1, 1), w.RWMutex(1, 2)
	holder := func(c *sched.Client) {
		m.Lock(c)
		defer m.Unlock(c)
		rw.RLock(c)
		defer rw.RUnlock(c)
		prim.NewCell(w, 1, 3, 0).Get(c)
	}
	mustRun(t, []client{holder}, 0, 0)
	if isReady(t, m.Lock) || stateOf(t, rw) != (state{false, 1}) {
		t.Errorf("it is free: %v; %v", isReady(t, m.Lock), stateOf(t, rw))
	}
	m.Unlock(nil)
	rw.RUnlock(nil)
	r := mustRun(t, []client{holder}, 0, 0, 0, 0, 0)
	if !isReady(t, m.Lock) || stateOf(t, rw) != (state{}) || r.Ends[0] != hasEnded || r.Used != 5 {
		t.Errorf("%v", r)
	}
}

// 10.1: nothing asks whether another thing has the same obj and num.
func TestSameNumbers(t *testing.T) {
	w := prim.Scripted()
	m, other := w.Mutex(1, 1), w.Mutex(1, 1)
	rw, third := w.RWMutex(1, 1), w.RWMutex(1, 1)
	n, k := w.Counter(1, 1, 1), w.Counter(1, 1, 2)
	a, b := prim.NewAtomic(w, 1, 1, "a"), prim.NewAtomic(w, 1, 1, "b")
	x, y := prim.NewCell(w, 1, 1, "x"), prim.NewCell(w, 1, 1, "y")
	m.Lock(nil)
	rw.Lock(nil)
	n.Add(nil, 10)
	a.Store(nil, "c")
	x.Set(nil, "z")
	if !isReady(t, other.Lock) || stateOf(t, third) != (state{}) || k.Read(nil) != 2 || b.Load(nil) != "b" || y.Get(nil) != "y" {
		t.Error("one thing has to do with another")
	}
}

// 10.1: a thing stays as it is from run to run.
func TestFromRunToRun(t *testing.T) {
	w := prim.Scripted()
	n, m := w.Counter(1, 1, 0), w.Mutex(1, 2)
	body := func(c *sched.Client) {
		m.Lock(c)
		n.Add(c, 1)
	}
	mustRun(t, []client{body, body}, 0, 0, 0)
	r := mustRun(t, []client{body, body}, 0, 0, 0)
	if n.Read(nil) != 1 || r.Used != 0 || !r.Stuck {
		t.Errorf("%d, %v", n.Read(nil), r)
	}
	m.Unlock(nil)
	mustRun(t, []client{body, body}, 0, 0, 0)
	if n.Read(nil) != 2 {
		t.Errorf("%d", n.Read(nil))
	}
}
