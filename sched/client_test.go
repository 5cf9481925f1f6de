package sched_test

import (
	"fmt"
	"slices"
	"testing"

	"docket/api"
	"docket/sched"
)

// P9.2: Step returns when its client was picked and do was called: not ahead of that.
func TestStepReturns(t *testing.T) {
	var d diary
	body := func(c *sched.Client) {
		for i := range 2 {
			d.add("%d waits", c.Number())
			c.Step(step(i+1), nil, func() { d.add("%d does", c.Number()) })
			d.add("%d is back", c.Number())
		}
	}
	mustRun(t, times(2, body), 1, 0)
	d.want(t, "0 waits", "1 waits", "1 does", "1 is back", "1 waits", "0 does", "0 is back", "0 waits")
}

// P9.2: the step is told as it was handed in, whatever its fields are.
func TestStepIsToldWhole(t *testing.T) {
	all := []api.Step{{}, {Kind: 1}, {Obj: 2}, {Num: 3}, {Kind: -1, Obj: -2, Num: -3}, {Kind: 1 << 62, Obj: -1 << 63, Num: 1<<63 - 1}}
	body := func(c *sched.Client) {
		for _, s := range all {
			c.Step(s, nil, nil)
		}
	}
	for n := range len(all) + 1 {
		r := mustRun(t, []client{body}, make([]int, n)...)
		for i, e := range r.Events {
			if e != (api.Event{Client: 0, Step: all[i]}) {
				t.Errorf("event %d: %v", i, e)
			}
		}
		if len(r.Events) != n {
			t.Errorf("%d events; want %d", len(r.Events), n)
		}
		if n < len(all) && r.Waits[0] != all[n] {
			t.Errorf("waits with %v; want %v", r.Waits[0], all[n])
		}
	}
}

// P9.2: a step that is handed over within a do is a step behind this one.
func TestStepWithinDo(t *testing.T) {
	body := func(c *sched.Client) {
		c.Step(step(1), nil, func() { c.Step(step(2), nil, nil) })
		c.Step(step(3), nil, nil)
	}
	r := mustRun(t, times(2, body), 0, 0, 0, 0, 0, 0)
	if got := events(t, r); got != "0A 0B 0C 1A 1B 1C" {
		t.Errorf("%s", got)
	}
}

// P9.4.
func TestNumbers(t *testing.T) {
	var told []int
	body := func(c *sched.Client) {
		told = append(told, c.Number())
		c.Step(step(1), func() bool { return c.Number() != 3 }, func() { told = append(told, c.Number()) })
		told = append(told, c.Number())
	}
	bodies := times(mostClients, body)
	bodies[5] = nil
	mustRun(t, bodies, 0, -1)
	want := []int{0, 1, 2, 3, 4, 6, 7, 8, 9, 10, 11, 12, 13, 14, 15, 0, 0, 15, 15}
	if !slices.Equal(told, want) {
		t.Errorf("%v; want %v", told, want)
	}
}

// P9.4: how often the client was picked so far: in do it has been, in ready not yet.
func TestPicks(t *testing.T) {
	var d diary
	body := func(c *sched.Client) {
		defer func() { d.add("%d at the end: %d", c.Number(), c.Picks()) }()
		for i := 0; ; i++ {
			if c.Picks() != i {
				t.Errorf("client %d: %d picks; want %d", c.Number(), c.Picks(), i)
			}
			c.Step(step(1), func() bool {
				if c.Picks() != i {
					t.Errorf("client %d in ready: %d picks; want %d", c.Number(), c.Picks(), i)
				}
				return true
			}, func() {
				if c.Picks() != i+1 {
					t.Errorf("client %d in do: %d picks; want %d", c.Number(), c.Picks(), i+1)
				}
			})
		}
	}
	mustRun(t, times(3, body), 0, 2, 2, 0, 2)
	d.want(t, "0 at the end: 2", "1 at the end: 0", "2 at the end: 3")
}

// P9.4: a note is told as it was handed in.
func TestNotesAreToldWhole(t *testing.T) {
	texts := []string{"", "n", "a\x00b\xff", "ä", "several words", string(make([]byte, 100000))}
	body := func(c *sched.Client) {
		for i, text := range texts {
			c.Note(i-2, text)
		}
	}
	r := mustRun(t, times(2, body))
	if len(r.Notes) != 2*len(texts) {
		t.Fatalf("%d notes", len(r.Notes))
	}
	for i, n := range r.Notes {
		if want := (api.Note{Client: i / len(texts), Kind: i%len(texts) - 2, Text: texts[i%len(texts)]}); n != want {
			t.Errorf("note %d: %v; want %v", i, n, want)
		}
	}
}

// P9.4: a nil Client.
func TestNilClient(t *testing.T) {
	var c *sched.Client
	if c.Number() != -1 || c.Picks() != 0 {
		t.Errorf("Number %d, Picks %d", c.Number(), c.Picks())
	}
	c.Note(1, "n")
	done := 0
	c.Step(step(1), nil, func() { done++ })
	c.Step(step(1), func() bool { return false }, func() { done++ })
	c.Step(step(1), func() bool { panic("it is not asked") }, func() { done++ })
	if done != 3 {
		t.Errorf("do was called %d times", done)
	}
	c.Step(step(1), nil, nil)
	c.Step(step(1), func() bool { return false }, nil)
	if c.Number() != -1 || c.Picks() != 0 {
		t.Errorf("behind steps: Number %d, Picks %d", c.Number(), c.Picks())
	}
}

// P9.4: a nil Client within a run has no part in it.
func TestNilClientWithinARun(t *testing.T) {
	var none *sched.Client
	done := 0
	body := func(c *sched.Client) {
		c.Step(step(1), nil, nil)
		none.Step(step(2), nil, func() { done++ })
		none.Note(1, "n")
		c.Step(step(3), nil, nil)
	}
	r := mustRun(t, times(2, body), 0, 1, 0)
	if got := events(t, r); got != "0A 1A 0C" || len(r.Notes) != 0 || done != 2 {
		t.Errorf("%s, %d notes, %d done", got, len(r.Notes), done)
	}
}

// P9.3: At is how many events there were, in a do too.
func TestWhenNotesWereTold(t *testing.T) {
	body := func(c *sched.Client) {
		c.Note(1, "start")
		for i := range 2 {
			c.Step(step(i+1), nil, func() { c.Note(2, fmt.Sprint("do", i)) })
			c.Note(3, fmt.Sprint("on", i))
		}
		c.Note(4, "end")
	}
	r := mustRun(t, times(2, body), 1, 0, 1)
	want := "0:0:1:start 0:1:1:start 1:1:2:do0 1:1:3:on0 2:0:2:do0 2:0:3:on0 3:1:2:do1 3:1:3:on1 3:1:4:end"
	if got := notes(r); got != want {
		t.Errorf("%s\nwant %s", got, want)
	}
}

// P9.3: Stuck, by who waits and who is ready, with entries left and without.
func TestStuck(t *testing.T) {
	for _, x := range []struct {
		name   string
		bodies []client
		script []int
		want   bool
	}{
		{"none", nil, nil, false},
		{"none, and entries", nil, []int{1}, false},
		{"all ended", times(2, steps(1)), []int{0, 0}, false},
		{"all ended, entries left", times(2, steps(1)), []int{0, 0, 0, 0}, false},
		{"one panicked, one ended", []client{func(*sched.Client) { panic(1) }, steps(1)}, []int{0, 0}, false},
		{"one ready, no entry", []client{steps(1)}, nil, false},
		{"one ready, no entry left", []client{steps(2)}, []int{0}, false},
		{"one ready, one not, no entry", []client{steps(1), never}, nil, false},
		{"one not, no entry", []client{never}, nil, true},
		{"one not, entries", []client{never}, []int{0}, true},
		{"one ended, one not, no entry left", []client{steps(1), never}, []int{0}, true},
		{"one ended, one not, entries left", []client{steps(1), never}, []int{0, 0}, true},
		{"one panicked, one not", []client{func(*sched.Client) { panic(1) }, never}, []int{0}, true},
		{"none but nil, one not", []client{nil, never, nil}, nil, true},
	} {
		if r := mustRun(t, x.bodies, x.script...); r.Stuck != x.want {
			t.Errorf("%s: %v", x.name, r)
		}
	}
}

// P9.3: of a client that was not stopped the zero Step, though it waited once.
func TestWaitsOfThoseThatEnded(t *testing.T) {
	thrower := func(c *sched.Client) { steps(1)(c); panic("x") }
	r := mustRun(t, []client{steps(1), thrower, steps(2), never, nil}, 0, 0, 0)
	want := []api.Step{{}, {}, step(2), step(9), {}}
	if !slices.Equal(r.Waits, want) {
		t.Errorf("%v; want %v", r.Waits, want)
	}
	wantEnds(t, r, hasEnded, panicked, wasStopped, wasStopped, hasEnded)
}
