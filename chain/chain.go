// Package chain plays calls that are written down as chains of steps: by the words of chapter 9, and without goroutines. The tests of layers that take steps write the chapters' words down so, and hold their calls against them.
package chain

import "docket/api"

// Link is a step that a client waits with. Do does what the step does, and tells with which one the client waits then: nil, if it has ended.
type Link struct {
	Step  api.Step
	Ready func() bool // nil: always
	Do    func() *Link
}

// Of is a step that is always ready.
func Of(s api.Step, do func() *Link) *Link { return &Link{Step: s, Do: do} }

// Play is the run of clients that wait with these steps at first, under a script.
func Play(clients []*Link, script []int) api.Run {
	var r api.Run
	now := make([]*Link, len(clients))
	copy(now, clients)
	for {
		open := ready(now)
		if len(open) == 0 {
			r.Stuck = waits(now)
			break
		}
		if r.Used == len(script) {
			break
		}
		i := open[modulo(script[r.Used], len(open))]
		r.Events = append(r.Events, api.Event{Client: i, Step: now[i].Step})
		r.Used++
		now[i] = now[i].Do()
	}
	for _, l := range now {
		if l == nil {
			r.Ends, r.Waits = append(r.Ends, 1), append(r.Waits, api.Step{})
		} else {
			r.Ends, r.Waits = append(r.Ends, 0), append(r.Waits, l.Step)
		}
	}
	return r
}

// Done does the steps one behind the other, ready or not, as a call does that nobody makes.
func Done(l *Link) {
	for l != nil {
		l = l.Do()
	}
}

// Lock is one of a script's world.
type Lock struct{ held bool }

// Around lays the steps of the lock, with that obj and the num 0, around a call, which is told what comes behind it. A nil Lock lays none.
func (l *Lock) Around(obj int, call func(then func() *Link) *Link, then func() *Link) *Link {
	if l == nil {
		return call(then)
	}
	unlock := func() *Link {
		return Of(api.Step{Kind: api.StepUnlock, Obj: obj}, func() *Link {
			l.held = false
			return then()
		})
	}
	return &Link{
		Step:  api.Step{Kind: api.StepLock, Obj: obj},
		Ready: func() bool { return !l.held },
		Do: func() *Link {
			l.held = true
			return call(unlock)
		},
	}
}

// ready is the numbers of the clients that are, rising.
func ready(clients []*Link) []int {
	var open []int
	for i, l := range clients {
		if l != nil && (l.Ready == nil || l.Ready()) {
			open = append(open, i)
		}
	}
	return open
}

func waits(clients []*Link) bool {
	for _, l := range clients {
		if l != nil {
			return true
		}
	}
	return false
}

// modulo is from 0 to n less 1, of an e below 0 too.
func modulo(e, n int) int { return (e%n + n) % n }
