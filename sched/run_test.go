package sched_test

import (
	"bytes"
	"fmt"
	"math"
	"runtime"
	"slices"
	"sync/atomic"
	"testing"

	"docket/api"
	"docket/sched"
)

// The examples of the chapter: two clients, each with the steps A, B.
func TestExamples(t *testing.T) {
	for _, x := range []struct {
		script []int
		events string
		ends   []int
		waits  []int // kinds
	}{
		{[]int{0, 0, 0, 0}, "0A 0B 1A 1B", []int{1, 1}, []int{0, 0}},
		{[]int{0, 1, 0, 0}, "0A 1A 0B 1B", []int{1, 1}, []int{0, 0}},
		{[]int{1, -1}, "1A 1B", []int{0, 1}, []int{1, 0}},
		{[]int{0}, "0A", []int{0, 0}, []int{2, 1}},
	} {
		r := mustRun(t, times(2, steps(2)), x.script...)
		if got := events(t, r); got != x.events {
			t.Errorf("%v: %s; want %s", x.script, got, x.events)
		}
		wantEnds(t, r, x.ends...)
		for i, kind := range x.waits {
			want := api.Step{}
			if kind != 0 {
				want = step(kind)
			}
			if r.Waits[i] != want {
				t.Errorf("%v: client %d waits with %v; want %v", x.script, i, r.Waits[i], want)
			}
		}
		if r.Stuck {
			t.Errorf("%v: stuck", x.script)
		}
	}
	for _, script := range [][]int{nil, {0}, {0, 1, 2}, make([]int, 100)} {
		r := mustRun(t, []client{never}, script...)
		if !r.Stuck || r.Used != 0 || len(r.Events) != 0 || r.Waits[0] != step(9) || r.Ends[0] != wasStopped {
			t.Errorf("a step that is never ready, under %v: %v", script, r)
		}
	}
	for _, bodies := range [][]client{nil, {}} {
		r := mustRun(t, bodies, 0, 1, 2)
		if len(r.Events) != 0 || len(r.Notes) != 0 || r.Stuck || r.Used != 0 {
			t.Errorf("no bodies: %v", r)
		}
	}
	r := mustRun(t, []client{steps(1), func(*sched.Client) { panic("x") }, steps(1)}, 1, 0)
	wantEnds(t, r, hasEnded, panicked, hasEnded)
	if got := events(t, r); got != "2A 0A" {
		t.Errorf("beside one that panics: %s", got)
	}
}

// P9.1: the limits, and which of two errors is told.
func TestLimits(t *testing.T) {
	ran := 0
	body := func(*sched.Client) { ran++ }
	for _, x := range []struct {
		clients, entries int
		want             api.Errno
	}{
		{mostClients, longestRun, api.OK},
		{mostClients, 0, api.OK},
		{0, longestRun, api.OK},
		{0, 0, api.OK},
		{mostClients + 1, 0, tooMany},
		{mostClients + 1, longestRun, tooMany},
		{100, 1, tooMany},
		{mostClients, longestRun + 1, tooLong},
		{0, longestRun + 1, tooLong},
		{1, 2 * longestRun, tooLong},
		{mostClients + 1, longestRun + 1, tooMany},
	} {
		ran = 0
		r, e := sched.Run(times(x.clients, body), make([]int, x.entries))
		if e != x.want {
			t.Errorf("%d clients, %d entries: %d; want %d", x.clients, x.entries, e, x.want)
		}
		if x.want == api.OK && ran != x.clients {
			t.Errorf("%d clients, %d entries: %d bodies ran", x.clients, x.entries, ran)
		}
		if x.want != api.OK && (ran != 0 || !sameRuns(r, api.Run{})) {
			t.Errorf("%d clients, %d entries: an error, but %d bodies ran: %v", x.clients, x.entries, ran, r)
		}
	}
	if _, e := sched.Run(make([]client, mostClients+1), nil); e != tooMany {
		t.Errorf("nil bodies are clients too: %d", e)
	}
	if api.MaxClients != mostClients || api.MaxScript != longestRun {
		t.Error("other limits")
	}
}

// P9.1: the longest script, with all clients, is gone through to its end.
func TestLongest(t *testing.T) {
	script := make([]int, longestRun)
	for i := range script {
		script[i] = i * i
	}
	r := mustRun(t, times(mostClients, endless), script...)
	if r.Used != longestRun || r.Stuck {
		t.Fatalf("%d entries were used, stuck: %v", r.Used, r.Stuck)
	}
	for i, e := range r.Events {
		if e.Client != i*i%mostClients {
			t.Fatalf("event %d is client %d's; want %d's", i, e.Client, i*i%mostClients)
		}
	}
}

// P9.1: the start: by rising number, each to its first Step or its end.
func TestStart(t *testing.T) {
	var d diary
	body := func(c *sched.Client) {
		d.add("%d begins", c.Number())
		runtime.Gosched()
		d.add("%d goes on", c.Number())
		c.Step(step(1), nil, func() { d.add("%d is picked", c.Number()) })
		d.add("%d is behind its step", c.Number())
	}
	ends := func(c *sched.Client) { d.add("%d ends", c.Number()) }
	mustRun(t, []client{body, ends, nil, body})
	d.want(t, "0 begins", "0 goes on", "1 ends", "3 begins", "3 goes on")
	d = diary{}
	mustRun(t, []client{body, ends, nil, body}, 1, 0)
	d.want(t, "0 begins", "0 goes on", "1 ends", "3 begins", "3 goes on", "3 is picked", "3 is behind its step", "0 is picked", "0 is behind its step")
}

// P9.1: what is done at the start is done whoever is ready, and before any ready is asked.
func TestReadyIsAskedBehindTheStart(t *testing.T) {
	begun, asked := 0, 0
	body := func(c *sched.Client) {
		begun++
		c.Step(step(1), func() bool {
			asked++
			if begun != 3 {
				t.Errorf("ready is asked when %d of 3 clients have begun", begun)
			}
			return true
		}, nil)
	}
	mustRun(t, times(3, body), 0, 0, 0)
	if asked == 0 {
		t.Error("ready was never asked")
	}
}

// P9.1: each body has a goroutine of its own, through all its steps.
func TestGoroutines(t *testing.T) {
	here := goroutine()
	seen := map[string]int{here: -1}
	body := func(c *sched.Client) {
		mine := goroutine()
		if of, there := seen[mine]; there {
			t.Errorf("client %d is on the goroutine of %d", c.Number(), of)
		}
		seen[mine] = c.Number()
		for range 3 {
			c.Step(step(1), nil, nil)
			if now := goroutine(); now != mine {
				t.Errorf("client %d went from %s to %s", c.Number(), mine, now)
			}
		}
	}
	mustRun(t, times(mostClients, body), newDice(11).script(60)...)
	if len(seen) != mostClients+1 {
		t.Errorf("%d goroutines in all", len(seen))
	}
}

// goroutine is how the library names the one that asks.
func goroutine() string {
	text := make([]byte, 64)
	text = text[:runtime.Stack(text, false)]
	name, _, _ := bytes.Cut(text, []byte(" ["))
	return string(name)
}

// P9.1: a nil body has ended at once.
func TestNilBodies(t *testing.T) {
	r := mustRun(t, []client{nil, steps(1), nil}, 5, 5)
	wantEnds(t, r, hasEnded, hasEnded, hasEnded)
	if events(t, r) != "1A" || r.Stuck {
		t.Errorf("%v", r)
	}
	r = mustRun(t, make([]client, mostClients), 0)
	wantEnds(t, r, slices.Repeat([]int{hasEnded}, mostClients)...)
	if r.Stuck || r.Used != 0 {
		t.Errorf("nil bodies alone: %v", r)
	}
}

// P9.1: the place of a pick is the entry modulo the number of those that are ready, of an entry below 0 too.
func TestPlaces(t *testing.T) {
	entries := []int{math.MinInt, math.MinInt + 1, math.MinInt + 7, math.MaxInt, math.MaxInt - 1, math.MinInt32, math.MaxInt32, allNumbers, -allNumbers}
	for e := -50; e <= 50; e++ {
		entries = append(entries, e)
	}
	for n := 1; n <= mostClients; n++ {
		for _, e := range entries {
			r := mustRun(t, times(n, steps(1)), e)
			if want := remainder(e, n); len(r.Events) != 1 || r.Events[0].Client != want {
				t.Fatalf("%d clients, entry %d: %v; want client %d", n, e, r.Events, want)
			}
		}
	}
}

// P9.1: places are counted among those that are ready: not among those that wait, or have ended.
func TestPlacesAmongTheReady(t *testing.T) {
	for _, x := range []struct {
		ready  []bool
		script []int
		want   []int
	}{
		{[]bool{false, true, false, true}, []int{0}, []int{1}},
		{[]bool{false, true, false, true}, []int{1}, []int{3}},
		{[]bool{false, true, false, true}, []int{2}, []int{1}},
		{[]bool{false, true, false, true}, []int{-1}, []int{3}},
		{[]bool{true, false, true, true}, []int{2, 1, 0}, []int{3, 2, 0}},
		{[]bool{true, false, true, true}, []int{3, 3, 3}, []int{0, 3, 2}},
		{[]bool{true, false, true, true}, []int{1, 1, 1}, []int{2, 3, 0}},
		{[]bool{true, true, true, false}, []int{-1, -1, -1, -1}, []int{2, 1, 0}},
	} {
		var bodies []client
		for _, ready := range x.ready {
			bodies = append(bodies, func(c *sched.Client) {
				c.Step(step(1), func() bool { return ready }, nil)
			})
		}
		r := mustRun(t, bodies, x.script...)
		if got := picked(r); !slices.Equal(got, x.want) {
			t.Errorf("ready %v, script %v: %v; want %v", x.ready, x.script, got, x.want)
		}
	}
}

// P9.1: whether a client is ready is asked anew ahead of each pick: what another one does makes it ready, or no longer so.
func TestReadyChanges(t *testing.T) {
	open := false
	door := func(c *sched.Client) { c.Step(step(3), func() bool { return open }, nil) }
	porter := func(c *sched.Client) {
		c.Step(step(1), nil, func() { open = true })
		c.Step(step(2), nil, nil)
		open = false
		c.Step(step(4), nil, nil)
	}
	for _, x := range []struct {
		script []int
		events string
		stuck  bool
	}{
		{[]int{0}, "1A", false},
		{[]int{1}, "1A", false},
		{[]int{1, 0}, "1A 0C", false},
		{[]int{1, 1, 1}, "1A 1B 1D", true},
		{[]int{7, 0, 9, 9, 9}, "1A 0C 1B 1D", false},
	} {
		open = false
		r := mustRun(t, []client{door, porter}, x.script...)
		if got := events(t, r); got != x.events || r.Stuck != x.stuck {
			t.Errorf("%v: %s, stuck %v; want %s, %v", x.script, got, r.Stuck, x.events, x.stuck)
		}
	}
}

// P9.1: no two go on at one time; ready is asked only when none does.
func TestOneAtATime(t *testing.T) {
	defer runtime.GOMAXPROCS(runtime.GOMAXPROCS(4))
	var going atomic.Int32
	enter := func(c *sched.Client) {
		if n := going.Add(1); n != 1 {
			t.Errorf("%d clients go on", n)
		}
		runtime.Gosched()
	}
	leave := func() { going.Add(-1) }
	body := func(c *sched.Client) {
		enter(c)
		defer func() {
			if recover() != nil {
				enter(c)
			}
			runtime.Gosched()
			leave()
		}()
		for {
			leave()
			c.Step(step(1), func() bool {
				if n := going.Load(); n != 0 {
					t.Errorf("ready is asked while %d clients go on", n)
				}
				return true
			}, func() { enter(c); runtime.Gosched() })
		}
	}
	mustRun(t, times(mostClients, body), newDice(12).script(2000)...)
	if n := going.Load(); n != 0 {
		t.Errorf("behind the run %d clients go on", n)
	}
}

// P9.1: do is called just once, when its client is picked; the do of one that is stopped is not called.
func TestDoOnce(t *testing.T) {
	d := newDice(13)
	for range 100 {
		n := 1 + d.Intn(5)
		made, done := make([]int, n), make([]int, n)
		body := func(c *sched.Client) {
			for range 3 {
				made[c.Number()]++
				was := done[c.Number()]
				c.Step(step(1), nil, func() { done[c.Number()]++ })
				if done[c.Number()] != was+1 {
					t.Errorf("do was called %d times", done[c.Number()]-was)
				}
			}
		}
		r := mustRun(t, times(n, body), d.script(d.Intn(4*n))...)
		all := 0
		for i := range n {
			all += done[i]
			waits := 0
			if r.Ends[i] == wasStopped {
				waits = 1
			}
			if done[i] != made[i]-waits {
				t.Errorf("client %d took %d steps, %d do were called, it waits: %d", i, made[i], done[i], waits)
			}
		}
		if all != r.Used {
			t.Errorf("%d do for %d picks", all, r.Used)
		}
	}
}

// P9.1: a run without a ready client ends, however long the script is.
func TestEndsWhenNoneIsReady(t *testing.T) {
	r := mustRun(t, []client{never, steps(2), nil}, make([]int, 1000)...)
	if r.Used != 2 || !r.Stuck || events(t, r) != "1A 1B" {
		t.Errorf("%v", r)
	}
	wantEnds(t, r, wasStopped, hasEnded, hasEnded)
	r = mustRun(t, times(3, steps(2)), make([]int, 1000)...)
	if r.Used != 6 || r.Stuck {
		t.Errorf("%v", r)
	}
}

// P9.1: a client that panics by itself has ended, wherever it does; the others go on.
func TestPanics(t *testing.T) {
	for name, thrown := range map[string]any{
		"text": "x", "number": 7, "error": fmt.Errorf("e"), "nil": nil, "struct": struct{}{}, "step": step(1),
	} {
		for place, body := range map[string]client{
			"at the start": func(*sched.Client) { panic(thrown) },
			"behind steps": func(c *sched.Client) { steps(2)(c); panic(thrown) },
			"in do":        func(c *sched.Client) { c.Step(step(1), nil, func() { panic(thrown) }) },
			"in a deferred function": func(c *sched.Client) {
				defer func() { panic(thrown) }()
				steps(1)(c)
			},
		} {
			r := mustRun(t, []client{steps(1), body, steps(1)}, make([]int, 10)...)
			wantEnds(t, r, hasEnded, panicked, hasEnded)
			if r.Stuck || r.Waits[1] != (api.Step{}) || r.Events[len(r.Events)-1].Client != 2 {
				t.Errorf("%s %s: %v", name, place, r)
			}
		}
	}
}

// P9.1: a fault of the language's own is a panic as others are.
func TestFaults(t *testing.T) {
	var none []int
	var nothing map[string]int
	r := mustRun(t, []client{
		func(c *sched.Client) { none[c.Number()]++ },
		func(c *sched.Client) { nothing["x"] = c.Number() },
		func(c *sched.Client) { none[0] = 1 / c.Picks() },
	})
	wantEnds(t, r, panicked, panicked, panicked)
}

// P9.1: a step that a body takes while it panics is one as others are.
func TestStepWhilePanicking(t *testing.T) {
	body := func(c *sched.Client) {
		defer c.Step(step(2), nil, nil)
		c.Step(step(1), nil, nil)
		panic("x")
	}
	r := mustRun(t, []client{body}, 0, 0)
	wantEnds(t, r, panicked)
	if events(t, r) != "0A 0B" {
		t.Errorf("%v", r)
	}
	r = mustRun(t, []client{body}, 0)
	wantEnds(t, r, wasStopped)
	if r.Waits[0] != step(2) {
		t.Errorf("it waits with %v", r.Waits[0])
	}
}

// P9.1: a body that catches a panic of its own goes on.
func TestCaughtByTheBody(t *testing.T) {
	body := func(c *sched.Client) {
		func() {
			defer func() { recover() }()
			c.Step(step(1), nil, func() { panic("x") })
		}()
		c.Step(step(2), nil, nil)
	}
	r := mustRun(t, times(2, body), 0, 0, 0, 0)
	wantEnds(t, r, hasEnded, hasEnded)
	if events(t, r) != "0A 0B 1A 1B" {
		t.Errorf("%v", r)
	}
}

// Rule 1: a ready may not panic; if one does, Run does not, and all goroutines have ended.
func TestReadyThatPanics(t *testing.T) {
	d := diary{}
	body := func(c *sched.Client) {
		defer d.add("%d is stopped", c.Number())
		c.Step(step(1), func() bool { panic("x") }, nil)
	}
	r := mustRun(t, []client{body, steps(1)}, 0, 0)
	wantEnds(t, r, wasStopped, hasEnded)
	if !r.Stuck || r.Waits[0] != step(1) {
		t.Errorf("%v", r)
	}
	d.want(t, "0 is stopped")
}

// A body that leaves its goroutine has ended, without a panic.
func TestGoexit(t *testing.T) {
	r := mustRun(t, []client{func(c *sched.Client) { steps(1)(c); runtime.Goexit() }, steps(1)}, 0, 0)
	wantEnds(t, r, hasEnded, hasEnded)
}

// A run within a body, and one within a do, are runs of their own.
func TestRunsWithinRuns(t *testing.T) {
	inner := func() api.Run { return mustRun(t, times(2, steps(2)), 1, 0) }
	var within []api.Run
	body := func(c *sched.Client) {
		within = append(within, inner())
		c.Step(step(1), nil, func() { within = append(within, inner()) })
		c.Note(1, "n")
	}
	r := mustRun(t, times(2, body), 1, 0)
	if got := events(t, r); got != "1A 0A" || notes(r) != "1:1:1:n 2:0:1:n" {
		t.Errorf("%s, %s", got, notes(r))
	}
	for _, w := range within {
		if events(t, w) != "1A 0A" || len(within) != 4 {
			t.Errorf("%d runs within: %v", len(within), w)
		}
	}
}
