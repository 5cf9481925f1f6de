// Package chain plays calls that are written down as chains of steps: by the words of chapter 9, and without goroutines. The tests of layers that take steps write the chapters' words down so, and hold their calls against them.
package chain

import (
	"iter"
	"slices"

	"docket/api"
)

// Link is a step that a client waits with. Do does what the step does, and tells with which one the client waits then: nil, if it has ended.
type Link struct {
	Step  api.Step
	Ready func() bool // nil: always
	Do    func() *Link
}

// Of is a step that is always ready.
func Of(s api.Step, do func() *Link) *Link { return &Link{Step: s, Do: do} }

// Play is the run of clients that wait with these steps at first, under a script.
func Play(clients []*Link, script []int) api.Run {
	var r api.Run
	now := slices.Clone(clients)
	for {
		open := ready(now)
		if len(open) == 0 {
			r.Stuck = waits(now)
			break
		}
		if r.Used == len(script) {
			break
		}
		i := open[modulo(script[r.Used], len(open))]
		r.Events = append(r.Events, api.Event{Client: i, Step: now[i].Step})
		r.Used++
		now[i] = now[i].Do()
	}
	for _, l := range now {
		if l == nil {
			r.Ends, r.Waits = append(r.Ends, 1), append(r.Waits, api.Step{})
		} else {
			r.Ends, r.Waits = append(r.Ends, 0), append(r.Waits, l.Step)
		}
	}
	return r
}

// Every goes over all schedules of clients that end, or wait for ever: each as a script that leads to it and whose entries are all used. start makes the clients, each time in the same state.
func Every(start func() []*Link) iter.Seq[[]int] {
	return func(yield func([]int) bool) {
		script, ways := follow(start(), nil)
		for yield(slices.Clone(script)) {
			another := next(script, ways)
			if another == nil {
				return
			}
			script, ways = follow(start(), another)
		}
	}
}

// follow plays a script, and entries of 0 behind it, until no client is ready: all entries, and of each among how many clients it picked.
func follow(clients []*Link, script []int) (all, ways []int) {
	now := slices.Clone(clients)
	for open := ready(now); len(open) > 0; open = ready(now) {
		entry := 0
		if len(all) < len(script) {
			entry = script[len(all)]
		}
		all, ways = append(all, entry), append(ways, len(open))
		i := open[entry]
		now[i] = now[i].Do()
	}
	return all, ways
}

// next is how the script begins that comes behind this one, as words do in a dictionary; nil, if this is the last.
func next(script, ways []int) []int {
	for i, entry := range slices.Backward(script) {
		if entry+1 < ways[i] {
			return append(slices.Clone(script[:i]), entry+1)
		}
	}
	return nil
}

// Done does the steps one behind the other, ready or not, as a call does that nobody makes.
func Done(l *Link) {
	for l != nil {
		l = l.Do()
	}
}

// Lock is one of a script's world.
type Lock struct{ held bool }

// Around lays the steps of the lock, with that obj and the num 0, around a call, which is told what comes behind it. A nil Lock lays none.
func (l *Lock) Around(obj int, call func(then func() *Link) *Link, then func() *Link) *Link {
	if l == nil {
		return call(then)
	}
	unlock := func() *Link {
		return Of(api.Step{Kind: api.StepUnlock, Obj: obj}, func() *Link {
			l.held = false
			return then()
		})
	}
	return &Link{
		Step:  api.Step{Kind: api.StepLock, Obj: obj},
		Ready: func() bool { return !l.held },
		Do: func() *Link {
			l.held = true
			return call(unlock)
		},
	}
}

// ready is the numbers of the clients that are, rising.
func ready(clients []*Link) []int {
	var open []int
	for i, l := range clients {
		if l != nil && (l.Ready == nil || l.Ready()) {
			open = append(open, i)
		}
	}
	return open
}

func waits(clients []*Link) bool {
	for _, l := range clients {
		if l != nil {
			return true
		}
	}
	return false
}

// modulo is from 0 to n less 1, of an e below 0 too.
func modulo(e, n int) int { return (e%n + n) % n }
