package clocks_test

import (
	"math/rand"
	"slices"
	"testing"

	"docket/api"
	"docket/clocks"
)

// The kinds as the chapter numbers them, so that a test does not follow a number that another one stands for.
const (
	kindLock    = 1
	kindUnlock  = 2
	kindRLock   = 3
	kindRUnlock = 4
	kindLoad    = 5
	kindStore   = 6
	kindAdd     = 7
	kindGet     = 8
	kindSet     = 9
	kindCall    = 10
	kindReturn  = 11
)

// The limits as the document numbers them.
const (
	maxClients = 16
	maxTrace   = 1048576
)

// trace is a list of events: the word is short, as the tests have many.
type trace = []api.Event

// race is a pair that Races tells, so that a test can list them without names.
type race = api.Race

func event(client, kind, obj, num int) api.Event {
	return api.Event{Client: client, Step: api.Step{Kind: kind, Obj: obj, Num: num}}
}

// The things of the examples: a lock, a cell, an atomic.
const (
	a = 1
	x = 2
	f = 3
)

// by is an event of one of the examples' things.
func by(client, kind, obj int) api.Event {
	return event(client, kind, obj, 0)
}

func mustClocks(t *testing.T, l trace, clients int) [][]int {
	t.Helper()
	c, e := clocks.Clocks(l, clients)
	if e != api.OK || len(c) != len(l) {
		t.Fatalf("%v of %d clients: %d clocks, %d", l, clients, len(c), e)
	}
	return c
}

func mustRaces(t *testing.T, l trace, clients int) []race {
	t.Helper()
	r, e := clocks.Races(l, clients)
	if e != api.OK {
		t.Fatalf("%v of %d clients: %d", l, clients, e)
	}
	return r
}

func wantRaces(t *testing.T, what string, l trace, clients int, want ...race) {
	t.Helper()
	if r := mustRaces(t, l, clients); !slices.Equal(r, want) {
		t.Errorf("%s: races %v; want %v", what, r, want)
	}
}

func sameClocks(got, want [][]int) bool {
	return slices.EqualFunc(got, want, slices.Equal[[]int])
}

// dice makes traces that are the same in each run.
type dice struct{ *rand.Rand }

func newDice(seed int64) dice { return dice{rand.New(rand.NewSource(seed))} }

// shape is what a made-up trace is made of.
type shape struct {
	events  int
	clients int
	things  int
	kinds   []int
}

// someKinds leaves some kinds out, so that the others meet one another more often.
func (d dice) someKinds() []int {
	var kinds []int
	for kind := kindLock; kind <= kindReturn; kind++ {
		if d.Intn(3) > 0 {
			kinds = append(kinds, kind)
		}
	}
	return append(kinds, kindSet)
}

func (d dice) shape(events, clients, things int) shape {
	return shape{events: d.Intn(events + 1), clients: 1 + d.Intn(clients), things: 1 + d.Intn(things), kinds: d.someKinds()}
}

// trace is a list of any events of that shape, whether locks may be so or not. Things differ by obj alone, by num
// alone, and by both.
func (d dice) trace(s shape) trace {
	var l trace
	for range s.events {
		what := d.Intn(s.things)
		l = append(l, event(d.Intn(s.clients), s.kinds[d.Intn(len(s.kinds))], what%2-1, what/2-1))
	}
	return l
}
