package sched

import (
	"sync"

	"docket/api"
)

// run is a run under way. Just one has the turn: the run itself, or the client to which it gave it.
type run struct {
	clients []*Client
	open    []*Client      // those that were found ready: kept, so that not each pick needs a new list
	back    chan struct{}  // brings the turn back from a client that waits or has ended
	all     sync.WaitGroup // of the goroutines of all clients
	told    api.Run
}

func newRun(n int) *run {
	return &run{
		back: make(chan struct{}),
		told: api.Run{Ends: make([]int, n), Waits: make([]api.Step, n)},
	}
}

// note keeps what a client tells, behind the events so far.
func (r *run) note(n api.Note) {
	n.At = len(r.told.Events)
	r.told.Notes = append(r.told.Notes, n)
}

// start lets the clients go on, one after another, each to its first Step or its end.
func (r *run) start(bodies []func(*Client)) {
	for i, body := range bodies {
		c := &Client{run: r, number: i, turn: make(chan bool), end: byBody}
		r.clients = append(r.clients, c)
		if body == nil {
			continue
		}
		r.all.Add(1)
		go c.live(body)
		<-r.back
	}
}

// play takes the script's entries one by one, until there is none left or no client that is ready.
func (r *run) play(script []int) {
	for {
		open := r.ready()
		if len(open) == 0 {
			r.told.Stuck = r.anyWaits()
			return
		}
		if r.told.Used == len(script) {
			return
		}
		r.pick(open[modulo(script[r.told.Used], len(open))])
	}
}

// ready is the clients that are, by rising number; the list holds until the next call.
func (r *run) ready() []*Client {
	r.open = r.open[:0]
	for _, c := range r.clients {
		if c.isReady() {
			r.open = append(r.open, c)
		}
	}
	return r.open
}

func (r *run) anyWaits() bool {
	for _, c := range r.clients {
		if c.waits {
			return true
		}
	}
	return false
}

func (r *run) pick(c *Client) {
	r.told.Events = append(r.told.Events, api.Event{Client: c.number, Step: c.step})
	r.told.Used++
	c.picks++
	r.give(c, true)
}

// give lets a client that waits go on, and returns when it waits again or has ended.
func (r *run) give(c *Client, picked bool) {
	c.waits = false
	c.turn <- picked
	<-r.back
}

// stop stops the clients that still wait, and returns when all goroutines have ended.
func (r *run) stop() {
	for i, c := range r.clients {
		if c.waits {
			r.told.Waits[i] = c.step
			r.give(c, false)
		}
		r.told.Ends[i] = c.end
	}
	r.all.Wait()
}

// modulo is from 0 to n less 1, of an e below 0 too.
func modulo(e, n int) int {
	return (e%n + n) % n
}
