package sched

import "docket/api"

// How a client has ended, as Run tells it.
const (
	byStop = iota
	byBody
	byPanic
)

// Client is one of several that take steps. Its fields are written by whoever has the turn: the run, or the client that goes on.
type Client struct {
	run    *run
	number int
	picks  int
	end    int

	turn    chan bool // brings the turn: true to a client that was picked, false to one that is stopped
	waits   bool
	stopped bool
	step    api.Step
	ready   func() bool
}

// stop is what goes through the body of a client that is stopped.
type stop struct{}

// live is the client's goroutine: from its body's beginning, with the turn, to its end, where it gives the turn back.
func (c *Client) live(body func(*Client)) {
	defer c.run.all.Done()
	defer func() {
		c.end = c.endOf(recover())
		c.run.back <- struct{}{}
	}()
	body(c)
}

// endOf does not look at what was thrown: a body may throw anew, or hold back, what stopped it.
func (c *Client) endOf(thrown any) int {
	if c.stopped {
		return byStop
	}
	if thrown != nil {
		return byPanic
	}
	return byBody
}

// wait gives the turn back, and returns when the client is picked.
func (c *Client) wait(s api.Step, ready func() bool) {
	if !c.stopped {
		c.step, c.ready, c.waits = s, ready, true
		c.run.back <- struct{}{}
		c.stopped = !<-c.turn
	}
	if c.stopped {
		panic(stop{})
	}
}

// isReady takes a ready that panics, which none may, as one that answers false: Run must not panic with it.
func (c *Client) isReady() bool {
	if !c.waits {
		return false
	}
	if c.ready == nil {
		return true
	}
	defer func() { recover() }()
	return c.ready()
}
