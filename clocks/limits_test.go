package clocks_test

import (
	"slices"
	"testing"
	"time"

	"docket/api"
	"docket/clocks"
)

// soon is how long the greatest traces may take: it is far more than they do.
const soon = 2 * time.Minute

// greatTrace is one of MaxTrace events.
func greatTrace(at func(i int) api.Event) trace {
	l := make(trace, maxTrace)
	for i := range l {
		l[i] = at(i)
	}
	return l
}

func mustBeSoon(t *testing.T, what string, f func()) {
	t.Helper()
	from := time.Now()
	f()
	if took := time.Since(from); took > soon {
		t.Errorf("%s: it took %v", what, took)
	}
}

// P11.1: the greatest trace is not too long, and its last clock counts all of it.
func TestGreatestTrace(t *testing.T) {
	l := greatTrace(func(i int) api.Event { return by(i%maxClients, kindAdd, f) })
	last := maxTrace - 1
	mustBeSoon(t, "clocks", func() {
		c := mustClocks(t, l, maxClients)
		if !slices.Equal(c[last], slices.Repeat([]int{maxTrace / maxClients}, maxClients)) {
			t.Errorf("the last clock: %v", c[last])
		}
	})
	if !clocks.Before(l, maxClients, 0, last) || clocks.Before(l, maxClients, last, 0) {
		t.Error("the first event is not ahead of the last")
	}
	if c := mustClocks(t, slices.Repeat(trace{by(0, kindCall, 0)}, maxTrace), 1); c[last][0] != maxTrace {
		t.Errorf("of one client: %v", c[last])
	}
	longer := append(l, l[0])
	if c, e := clocks.Clocks(longer, maxClients); c != nil || e != isLong {
		t.Errorf("one event more: %d clocks, %d", len(c), e)
	}
}

// P11.3: races are found soon, where all race at one cell, where none do, and where each event has a cell of its own.
func TestRacesOfTheGreatestTraces(t *testing.T) {
	mustBeSoon(t, "all race", func() {
		r := mustRaces(t, greatTrace(func(i int) api.Event { return by(i%maxClients, kindSet, x) }), maxClients)
		if len(r) != maxTrace-1 || r[maxTrace-2] != (race{First: 0, Second: maxTrace - 1}) {
			t.Errorf("%d races", len(r))
		}
	})
	mustBeSoon(t, "none race", func() {
		r := mustRaces(t, greatTrace(func(i int) api.Event {
			kind := [4]int{kindLock, kindGet, kindSet, kindUnlock}[i%4]
			return by(i/4%maxClients, kind, kind/8)
		}), maxClients)
		if len(r) != 0 {
			t.Errorf("%d races under a lock", len(r))
		}
	})
	mustBeSoon(t, "many cells", func() {
		wantRaces(t, "many cells", greatTrace(func(i int) api.Event { return event(i%maxClients, kindSet, i, -i) }), maxClients)
	})
	mustBeSoon(t, "many atomics", func() {
		wantRaces(t, "many atomics", greatTrace(func(i int) api.Event { return event(i%maxClients, kindStore, -i, i) }), maxClients)
	})
}

// Rule 3: what is handed in is not changed, nor its spare room, nor kept.
func TestHandedIn(t *testing.T) {
	room := append(play8(), play8()...)
	l := room[:8]
	before := slices.Clone(room)
	c, r := mustClocks(t, l, 3), mustRaces(t, l, 3)
	clocks.Before(l, 3, 0, 7)
	clocks.Sees(l, 3, 7)
	if !slices.Equal(room, before) {
		t.Errorf("changed: %v; was %v", room, before)
	}
	clear(room)
	if !sameClocks(c, mustClocks(t, before[:8], 3)) || !slices.Equal(r, mustRaces(t, before[:8], 3)) {
		t.Error("the answers follow what was handed in")
	}
}

// play8 is a trace of eight events with races.
func play8() trace {
	return trace{by(0, kindSet, x), by(1, kindSet, x), by(2, kindGet, x), by(1, kindUnlock, a), by(0, kindLock, a), by(0, kindSet, x), by(2, kindSet, x), by(2, kindGet, x)}
}

// Rule 3: the lists of an answer are new, and share nothing with one another: not their spare room either.
func TestAnswersAreNew(t *testing.T) {
	l := play8()
	c, want := mustClocks(t, l, 3), mustClocks(t, l, 3)
	for i := range c {
		for j := range c[i] {
			c[i][j] = -1
		}
		_ = append(c[i], -2, -3, -4)
		for j := i + 1; j < len(c); j++ {
			if !slices.Equal(c[j], want[j]) {
				t.Fatalf("clock %d follows clock %d: %v", j, i, c[j])
			}
		}
		for j := range i {
			if !slices.Equal(c[j], []int{-1, -1, -1}) {
				t.Fatalf("clock %d follows clock %d: %v", j, i, c[j])
			}
		}
	}
	_ = append(c, []int{9})
	if !sameClocks(mustClocks(t, l, 3), want) {
		t.Error("a later answer follows an earlier one")
	}
	r, again := mustRaces(t, l, 3), mustRaces(t, l, 3)
	clear(r[:cap(r)])
	if len(again) == 0 || !slices.Equal(mustRaces(t, l, 3), again) || again[0] == (race{}) {
		t.Errorf("races %v", again)
	}
}
