package clocks

import (
	"iter"

	"docket/api"
)

// A clock has of each client how many of its events are known. They are at most MaxTrace: the smaller kind of
// number lets the clocks of a million things lie in half the memory.
type clock [api.MaxClients]int32

// join makes known what another clock knows.
func (c *clock) join(other clock) {
	for i, n := range other {
		c[i] = max(c[i], n)
	}
}

// within tells whether the other clock would learn nothing from this one.
func (c clock) within(other clock) bool {
	joined := other
	joined.join(c)
	return joined == other
}

func (c clock) counts(clients int) []int {
	out := make([]int, clients)
	for i := range out {
		out[i] = int(c[i])
	}
	return out
}

// A thing is what two steps are of, or not.
type thing struct {
	obj, num int
}

func thingOf(s api.Step) thing {
	return thing{obj: s.Obj, num: s.Num}
}

// thingIn is what is kept of a step's thing: new, if it is the first step of it.
func thingIn[T any](kept map[thing]*T, s api.Step) *T {
	x := kept[thingOf(s)]
	if x == nil {
		x = new(T)
		kept[thingOf(s)] = x
	}
	return x
}

// clocksOf goes through the events of a trace that may be, each with its number and its clock.
func clocksOf(events []api.Event) iter.Seq2[int, clock] {
	return func(yield func(int, clock) bool) {
		var clients [api.MaxClients]clock
		kinds, left := kindsOfSteps(), map[thing]*marks{}
		for i, x := range events {
			now := &clients[x.Client]
			now[x.Client]++
			if kind := kinds[x.Step.Kind]; kind.passes != nil {
				kind.passes(thingIn(left, x.Step), now)
			}
			if !yield(i, *now) {
				return
			}
		}
	}
}
