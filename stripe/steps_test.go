package stripe_test

import (
	"slices"
	"testing"

	"docket/api"
	"docket/prim"
	"docket/sched"
	"docket/stripe"
)

// The steps of calls in the stripe s, as the chapter tells them.
func takeAnew(s int) []api.Step {
	return []api.Step{at(kindRLock, objLock, s), at(kindGet, objBucket, s), at(kindRUnlock, objLock, s), at(kindLock, objLock, s), at(kindGet, objBucket, s), at(kindSet, objBucket, s), at(kindUnlock, objLock, s)}
}

func takeThere(s, num int) []api.Step {
	return []api.Step{at(kindRLock, objLock, s), at(kindGet, objBucket, s), at(kindAdd, objUsers, num), at(kindRUnlock, objLock, s)}
}

func dropOne(num int) []api.Step { return []api.Step{at(kindAdd, objUsers, num)} }

func dropLast(s, num int) []api.Step {
	return []api.Step{at(kindAdd, objUsers, num), at(kindLock, objLock, s), at(kindGet, objBucket, s), at(kindLoad, objUsers, num), at(kindSet, objBucket, s), at(kindUnlock, objLock, s)}
}

// P15.2 to P15.4: the steps of each call in each of its cases, with example 1.
func TestSteps(t *testing.T) {
	table := mustTable(t, prim.Scripted(), 1)
	var a, b *stripe.Entry
	take := func(key string, e **stripe.Entry) client { return func(c *sched.Client) { *e = table.Take(c, key) } }
	drop := func(e **stripe.Entry) client { return func(c *sched.Client) { table.Drop(c, *e) } }

	wantSteps(t, "Take of what is not there", take("a", &a), takeAnew(0)...)
	wantEntry(t, a, "a", 0)
	first := a
	wantSteps(t, "Take of what is there", take("a", &a), takeThere(0, 0)...)
	if a != first {
		t.Error("another one")
	}
	wantSteps(t, "Take of another key", take("b", &b), takeAnew(0)...)
	wantEntry(t, b, "b", 1)
	wantSteps(t, "Lock", a.Lock, at(kindLock, objLatch, 0))
	wantSteps(t, "Lock of another one", b.Lock, at(kindLock, objLatch, 1))
	wantSteps(t, "Unlock", a.Unlock, at(kindUnlock, objLatch, 0))
	wantSteps(t, "Unlock of what is free", a.Unlock, at(kindUnlock, objLatch, 0))
	wantSteps(t, "Unlock of another one", b.Unlock, at(kindUnlock, objLatch, 1))
	wantSteps(t, "Drop of one of two", drop(&a), dropOne(0)...)
	wantSteps(t, "Drop of the last", drop(&a), dropLast(0, 0)...)
	wantSteps(t, "Drop of the last of another key", drop(&b), dropLast(0, 1)...)
	wantEntries(t, table, 0)
	wantSteps(t, "Drop of what has gone", drop(&a), dropOne(0)...)
	wantSteps(t, "Take then", take("a", &a), takeAnew(0)...)
	wantEntry(t, a, "a", 2)
	wantSteps(t, "Drop of what has gone, while another one of its key is there", func(c *sched.Client) { table.Drop(c, first) }, dropOne(0)...)
	wantEntries(t, table, 1)
}

// 15.1: the objs and nums of the things, in each stripe.
func TestObjsAndNums(t *testing.T) {
	for _, obj := range []int{0, 7, -3} {
		for _, stripes := range []int{1, 2, 5, maxStripeNum} {
			table, _ := stripe.New(prim.Scripted(), obj, stripes)
			step := func(kind, off, num int) api.Step { return api.Step{Kind: kind, Obj: obj + off, Num: num} }
			for s := range stripes {
				for i, key := range keysOf(s, stripes, 3) {
					num := s + i*stripes
					wantSteps(t, "all of them", func(c *sched.Client) {
						e := table.Take(c, key)
						table.Take(c, key)
						e.Lock(c)
						e.Unlock(c)
						table.Drop(c, e)
						table.Drop(c, e)
					},
						step(kindRLock, 0, s), step(kindGet, 1, s), step(kindRUnlock, 0, s), step(kindLock, 0, s), step(kindGet, 1, s), step(kindSet, 1, s), step(kindUnlock, 0, s),
						step(kindRLock, 0, s), step(kindGet, 1, s), step(kindAdd, 3, num), step(kindRUnlock, 0, s),
						step(kindLock, 2, num), step(kindUnlock, 2, num),
						step(kindAdd, 3, num),
						step(kindAdd, 3, num), step(kindLock, 0, s), step(kindGet, 1, s), step(kindLoad, 3, num), step(kindSet, 1, s), step(kindUnlock, 0, s))
				}
			}
		}
	}
}

// 15.3, example 2: both find none; one makes the entry, the other one finds it under Lock.
func TestTwoTakes(t *testing.T) {
	table := mustTable(t, prim.Scripted(), 1)
	var told [2]*stripe.Entry
	body := func(c *sched.Client) { told[c.Number()] = table.Take(c, "a") }
	// Both RLock, Get, RUnlock; the second locks first.
	r := mustEnd(t, []client{body, body}, 0, 1, 0, 1, 0, 1, 1, 0, 0, 0, 0, 0, 0, 0)
	var steps [2][]api.Step
	for _, e := range r.Events {
		steps[e.Client] = append(steps[e.Client], e.Step)
	}
	late := takeAnew(0)
	late[5] = at(kindAdd, objUsers, 0)
	if !slices.Equal(steps[1], takeAnew(0)) || !slices.Equal(steps[0], late) {
		t.Errorf("%v", steps)
	}
	if told[0] != told[1] {
		t.Error("two entries")
	}
	wantEntry(t, told[0], "a", 0)
	table.Drop(nil, told[0])
	wantEntries(t, table, 1)
	table.Drop(nil, told[0])
	wantEntries(t, table, 0)
}

// P15.3: between the Add and the Lock of a Drop somebody takes the entry: it stays. Or somebody takes and drops it: it has gone then. Or takes, drops, and takes anew: another one is there, and stays.
func TestDropMeetsTake(t *testing.T) {
	for _, x := range []struct {
		what    string
		other   func(*sched.Client, *stripe.Table)
		script  []int
		behind  []api.Step
		entries int
	}{
		{"takes", func(c *sched.Client, table *stripe.Table) { table.Take(c, "a") },
			[]int{0, 1, 1, 1, 1, 0, 0, 0, 0},
			[]api.Step{at(kindLock, objLock, 0), at(kindGet, objBucket, 0), at(kindLoad, objUsers, 0), at(kindUnlock, objLock, 0)}, 1},
		{"takes and drops", func(c *sched.Client, table *stripe.Table) { table.Drop(c, table.Take(c, "a")) },
			[]int{0, 1, 1, 1, 1, 1, 1, 1, 1, 1, 1, 0, 0, 0},
			[]api.Step{at(kindLock, objLock, 0), at(kindGet, objBucket, 0), at(kindUnlock, objLock, 0)}, 0},
		{"takes, drops and takes", func(c *sched.Client, table *stripe.Table) {
			table.Drop(c, table.Take(c, "a"))
			table.Take(c, "a")
		},
			[]int{0, 1, 1, 1, 1, 1, 1, 1, 1, 1, 1, 1, 1, 1, 1, 1, 1, 1, 0, 0, 0},
			[]api.Step{at(kindLock, objLock, 0), at(kindGet, objBucket, 0), at(kindUnlock, objLock, 0)}, 1},
	} {
		table := mustTable(t, prim.Scripted(), 1)
		e := table.Take(nil, "a")
		r := mustEnd(t, []client{func(c *sched.Client) { table.Drop(c, e) }, func(c *sched.Client) { x.other(c, table) }}, x.script...)
		var behind []api.Step
		for _, e := range r.Events[1:] {
			if e.Client == 0 {
				behind = append(behind, e.Step)
			}
		}
		if r.Events[0].Client != 0 || !slices.Equal(behind, x.behind) {
			t.Errorf("another one %s: %v; want %v", x.what, behind, x.behind)
		}
		wantEntries(t, table, x.entries)
	}
}

// P15.5: to look on takes no step.
func TestNoSteps(t *testing.T) {
	table := mustTable(t, prim.Scripted(), 2)
	e := table.Take(nil, "a")
	wantSteps(t, "looking on", func(*sched.Client) {
		wantEntries(t, table, 1)
		wantSlots(t, table, 0, 1)
		wantSlots(t, table, 2, 0)
		wantEntry(t, e, "a", stripeOf("a", 2))
	})
}

// In the real world there are no steps, with a client or without one.
func TestNoStepsInTheRealWorld(t *testing.T) {
	table := mustTable(t, prim.Real(), 1)
	wantSteps(t, "the real world", func(c *sched.Client) {
		a := table.Take(c, "a")
		if table.Take(c, "a") != a {
			t.Error("another one")
		}
		a.Lock(c)
		a.Unlock(c)
		table.Drop(c, a)
		wantEntries(t, table, 1)
		table.Drop(c, a)
		wantEntries(t, table, 0)
		wantEntry(t, table.Take(c, "a"), "a", 1)
	})
}

// wantStopped plays a call to its step number picks, where it is stopped, waiting with want.
func wantStopped(t *testing.T, picks int, want api.Step, call client) {
	t.Helper()
	r := mustRun(t, []client{call}, make([]int, picks)...)
	if r.Ends[0] != wasStopped || r.Waits[0] != want || len(r.Events) != picks {
		t.Errorf("behind %d steps: ends %v, waits %v; want %v", picks, r.Ends, r.Waits, want)
	}
}

// P15.2: a Take that was stopped has made its entry, or not, by its Set alone.
func TestTakeStopped(t *testing.T) {
	for picks, step := range takeAnew(0) {
		table := mustTable(t, prim.Scripted(), 1)
		for _, key := range []string{"b", "c", "d", "e"} {
			table.Take(nil, key)
		}
		wantStopped(t, picks, step, func(c *sched.Client) { table.Take(c, "a") })
		if picks < 6 {
			wantEntries(t, table, 4)
			wantSlots(t, table, 0, 1)
			wantTake(t, table, "a", 4)
		} else {
			wantEntries(t, table, 5)
			wantTake(t, table, "a", 4)
		}
		wantEntries(t, table, 5)
		wantSlots(t, table, 0, 2)
	}
	// One that finds it has it by its Add.
	for picks, step := range takeThere(0, 0) {
		table := mustTable(t, prim.Scripted(), 1)
		a := table.Take(nil, "a")
		wantStopped(t, picks, step, func(c *sched.Client) { table.Take(c, "a") })
		table.Drop(nil, a)
		if picks < 3 {
			wantEntries(t, table, 0)
		} else {
			wantEntries(t, table, 1)
		}
	}
}

// P15.3: a Drop that was stopped has taken the entry out by its Set alone.
func TestDropStopped(t *testing.T) {
	for picks, step := range dropLast(0, 0) {
		table := mustTable(t, prim.Scripted(), 1)
		a := table.Take(nil, "a")
		table.Take(nil, "b")
		wantStopped(t, picks, step, func(c *sched.Client) { table.Drop(c, a) })
		if picks < 5 {
			wantEntries(t, table, 2)
			if wantTake(t, table, "a", 0) != a {
				t.Error("another one")
			}
		} else {
			wantEntries(t, table, 1)
			wantTake(t, table, "a", 2)
		}
	}
}

// What a stopped client calls, it is stopped at anew: nothing is done. What it has locked stays locked.
func TestCallsOfAStoppedClient(t *testing.T) {
	table := mustTable(t, prim.Scripted(), 1)
	a := table.Take(nil, "a")
	body := func(c *sched.Client) {
		defer func() { table.Take(c, "b") }()
		defer func() { table.Drop(c, a) }()
		defer func() { a.Lock(c) }()
		table.Take(c, "c")
	}
	// It holds the stripe, and waits with its Set.
	wantStopped(t, 5, at(kindSet, objBucket, 0), body)
	wantEntries(t, table, 1)
	if mustRun(t, []client{a.Lock}).Stuck {
		t.Error("the latch is held")
	}
	for _, call := range []client{
		func(c *sched.Client) { table.Take(c, "a") },
		func(c *sched.Client) { table.Take(c, "d") },
	} {
		if r := mustRun(t, []client{call}, 0, 0, 0); !r.Stuck || r.Used != 0 || r.Waits[0] != at(kindRLock, objLock, 0) {
			t.Errorf("the stripe is free: %v", r)
		}
	}
	// By nobody it is done, ready or not; the stripe is free then.
	table.Drop(nil, a)
	wantEntries(t, table, 0)
	wantSteps(t, "Take", func(c *sched.Client) { table.Take(c, "a") }, takeAnew(0)...)
}

// A client that is stopped while it reads has not left the stripe: nobody holds it any more, and others read.
func TestStoppedReader(t *testing.T) {
	table := mustTable(t, prim.Scripted(), 1)
	a := table.Take(nil, "a")
	wantStopped(t, 2, at(kindAdd, objUsers, 0), func(c *sched.Client) { table.Take(c, "a") })
	wantSteps(t, "Take of what is there", func(c *sched.Client) { table.Take(c, "a") }, takeThere(0, 0)...)
	r := mustRun(t, []client{func(c *sched.Client) { table.Take(c, "b") }}, make([]int, 9)...)
	if !r.Stuck || r.Used != 3 || r.Waits[0] != at(kindLock, objLock, 0) {
		t.Errorf("%v", r)
	}
	table.Drop(nil, a)
	table.Drop(nil, a)
	wantEntries(t, table, 0)
}

// A Drop of another table's entry: the entry's own users, and the stripe of its key in this table.
func TestDropOfAnotherTables(t *testing.T) {
	w := prim.Scripted()
	table, _ := stripe.New(w, 11, 1)
	other := mustTable(t, w, 7)
	e := other.Take(nil, "a")
	s := stripeOf("a", 7)
	wantSteps(t, "another table's", func(c *sched.Client) { table.Drop(c, e) },
		at(kindAdd, objUsers, s), at(kindLock, 11, 0), at(kindGet, 12, 0), at(kindUnlock, 11, 0))
	wantEntries(t, other, 1)
	mine := table.Take(nil, "a")
	wantSteps(t, "another table's", func(c *sched.Client) { other.Drop(c, mine) },
		at(kindAdd, 14, 0), at(kindLock, objLock, s), at(kindGet, objBucket, s), at(kindUnlock, objLock, s))
	wantEntries(t, other, 1)
	wantEntries(t, table, 1)
}
