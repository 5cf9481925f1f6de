package sched_test

import (
	"reflect"
	"runtime"
	"testing"

	"docket/api"
	"docket/sched"
)

// P9.1: those that still wait are stopped one after another, by rising number, each through its deferred functions.
func TestStoppedByNumber(t *testing.T) {
	var d diary
	body := func(c *sched.Client) {
		defer d.add("%d: last", c.Number())
		defer func() {
			d.add("%d: first", c.Number())
			runtime.Gosched()
			d.add("%d: second", c.Number())
		}()
		c.Step(step(1), nil, nil)
		c.Step(step(2), nil, nil)
		d.add("%d: behind its steps", c.Number())
	}
	r := mustRun(t, times(4, body), 2, 2, 3, 1)
	if got := events(t, r); got != "2A 2B 0A 1A" {
		t.Fatalf("events: %s", got)
	}
	wantEnds(t, r, wasStopped, wasStopped, hasEnded, wasStopped)
	d.want(t, "2: behind its steps", "2: first", "2: second", "2: last",
		"0: first", "0: second", "0: last", "1: first", "1: second", "1: last", "3: first", "3: second", "3: last")
}

// P9.1: what stops a client is a value of the package's own.
func TestWhatStops(t *testing.T) {
	var thrown any
	body := func(c *sched.Client) {
		defer func() {
			thrown = recover()
		}()
		endless(c)
	}
	r := mustRun(t, []client{body}, 0)
	wantEnds(t, r, wasStopped)
	if thrown == nil || reflect.TypeOf(thrown).PkgPath() != "docket/sched" {
		t.Errorf("it was stopped by %T", thrown)
	}
}

// P9.1: a Step of a stopped client panics at once, its ready and do are not called; its Note is let go.
func TestStoppedClient(t *testing.T) {
	var d diary
	body := func(c *sched.Client) {
		c.Note(1, "told")
		defer func() {
			d.add("%d: picked %d times", c.Number(), c.Picks())
			c.Note(2, "let go")
			defer func() {
				c.Note(3, "let go")
				d.add("%d: behind the step", c.Number())
			}()
			c.Step(step(5), func() bool { d.add("ready"); return true }, func() { d.add("do") })
			d.add("%d: the step returned", c.Number())
		}()
		c.Step(step(1), nil, nil)
		c.Step(step(2), nil, nil)
	}
	r := mustRun(t, times(2, body), 1)
	d.want(t, "0: picked 0 times", "0: behind the step", "1: picked 1 times", "1: behind the step")
	wantEnds(t, r, wasStopped, wasStopped)
	if got := notes(r); got != "0:0:1:told 0:1:1:told" {
		t.Errorf("notes: %s", got)
	}
	if r.Waits[0] != step(1) || r.Waits[1] != step(2) {
		t.Errorf("Waits: %v", r.Waits)
	}
}

// P9.1: a body that holds back what stops it, and goes on, is stopped anew at its next Step.
func TestStoppedAnew(t *testing.T) {
	var d diary
	body := func(c *sched.Client) {
		tries := 0
		for tries < 3 {
			func() {
				defer func() {
					if recover() != nil {
						tries++
						d.add("%d: stopped", c.Number())
					}
				}()
				c.Step(step(1+tries), nil, func() { d.add("%d: do", c.Number()) })
			}()
			c.Note(1, "n")
		}
		d.add("%d: ends", c.Number())
	}
	r := mustRun(t, times(2, body), 1)
	d.want(t, "1: do", "0: stopped", "0: stopped", "0: stopped", "0: ends", "1: stopped", "1: stopped", "1: stopped", "1: ends")
	wantEnds(t, r, wasStopped, wasStopped)
	if r.Waits[0] != step(1) || r.Waits[1] != step(1) || r.Stuck {
		t.Errorf("Waits: %v", r.Waits)
	}
	if got := notes(r); got != "1:1:1:n" {
		t.Errorf("notes: %s", got)
	}
}

// P9.3: a client that was stopped has been, whatever its deferred functions do then.
func TestStoppedWhateverFollows(t *testing.T) {
	for name, last := range map[string]func(any){
		"it ends":             func(any) {},
		"it throws the same":  func(thrown any) { panic(thrown) },
		"it throws another":   func(any) { panic("x") },
		"it throws nil":       func(any) { panic(nil) },
		"it leaves":           func(any) { runtime.Goexit() },
		"it breaks a bound":   func(any) { var n []int; n[0] = 1 },
		"it runs another run": func(any) { mustRun(t, []client{endless}, 0) },
	} {
		body := func(c *sched.Client) {
			defer func() { last(recover()) }()
			endless(c)
		}
		r := mustRun(t, []client{body, endless, body}, 0, 1)
		wantEnds(t, r, wasStopped, wasStopped, wasStopped)
		if r.Waits[0] != step(2) || r.Waits[1] != step(2) || r.Waits[2] != step(1) {
			t.Errorf("%s: %v", name, r.Waits)
		}
	}
}

// P9.3: whoever panics by itself with what stopped a client of another run has not been stopped.
func TestStopOfAnotherRun(t *testing.T) {
	var thrown any
	mustRun(t, []client{func(c *sched.Client) {
		defer func() { thrown = recover() }()
		endless(c)
	}})
	r := mustRun(t, []client{func(*sched.Client) { panic(thrown) }, endless})
	wantEnds(t, r, panicked, wasStopped)
}

// P9.1: one that panicked or ended by itself is not stopped: its Note was told, and its deferred functions ran then.
func TestNotStopped(t *testing.T) {
	var d diary
	ends := func(c *sched.Client) {
		defer d.add("%d: deferred", c.Number())
		c.Step(step(1), nil, nil)
		c.Note(1, "n")
		if c.Number() == 1 {
			panic("x")
		}
	}
	r := mustRun(t, []client{ends, ends, endless}, 1, 0, 0)
	d.want(t, "1: deferred", "0: deferred")
	wantEnds(t, r, hasEnded, panicked, wasStopped)
	if got := notes(r); got != "1:1:1:n 2:0:1:n" {
		t.Errorf("notes: %s", got)
	}
	if r.Waits[0] != (api.Step{}) || r.Waits[1] != (api.Step{}) {
		t.Errorf("Waits: %v", r.Waits)
	}
}
