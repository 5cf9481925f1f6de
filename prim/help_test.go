package prim_test

import (
	"fmt"
	"math/rand"
	"slices"
	"testing"
	"time"

	"docket/api"
	"docket/prim"
	"docket/sched"
)

// The kinds as the chapter numbers them, so that a test does not follow a number that another one stands for.
const (
	kindLock    = 1
	kindUnlock  = 2
	kindRLock   = 3
	kindRUnlock = 4
	kindLoad    = 5
	kindStore   = 6
	kindAdd     = 7
	kindGet     = 8
	kindSet     = 9
)

// How a client ends, as chapter 9 numbers it.
const (
	wasStopped = 0
	hasEnded   = 1
)

// client is a body: the word is short, as the tests have many.
type client = func(*sched.Client)

func mustRun(t *testing.T, bodies []client, script ...int) api.Run {
	t.Helper()
	r, e := sched.Run(bodies, script)
	if e != api.OK {
		t.Fatalf("%d clients, %d entries: %d", len(bodies), len(script), e)
	}
	return r
}

func wantEvents(t *testing.T, r api.Run, want ...api.Event) {
	t.Helper()
	if !slices.Equal(r.Events, want) {
		t.Errorf("events %v; want %v", r.Events, want)
	}
}

func event(client, kind, obj, num int) api.Event {
	return api.Event{Client: client, Step: api.Step{Kind: kind, Obj: obj, Num: num}}
}

// isReady tells whether a call would be picked now. Nothing is done by it: the client is stopped where it waits.
func isReady(t *testing.T, call client) bool {
	t.Helper()
	r := mustRun(t, []client{call})
	if len(r.Events) != 0 || len(r.Ends) != 1 || r.Ends[0] != wasStopped {
		t.Fatalf("the call took no step: %v", r)
	}
	return !r.Stuck
}

// state is how a lock stands.
type state struct {
	held    bool
	readers int
}

// stateOf finds out how a lock of a script's world stands, and leaves it so.
func stateOf(t *testing.T, m *prim.RWMutex) state {
	t.Helper()
	s := state{held: !isReady(t, m.RLock)}
	m.Unlock(nil)
	for !isReady(t, m.Lock) {
		m.RUnlock(nil)
		if s.readers++; s.readers > 1000 {
			t.Fatal("it is never free")
		}
	}
	s.lay(m)
	return s
}

// lay makes a free lock stand so.
func (s state) lay(m *prim.RWMutex) {
	for range s.readers {
		m.RLock(nil)
	}
	if s.held {
		m.Lock(nil)
	}
}

// soon is how long a test waits for what must come: it is far more than it takes.
const soon = time.Minute

// aWhile is how long a test looks whether something comes that must not.
const aWhile = 50 * time.Millisecond

// begin calls f in a goroutine; what it answers is closed when f has ended.
func begin(f func()) chan struct{} {
	done := make(chan struct{})
	go func() {
		defer close(done)
		f()
	}()
	return done
}

func mustEnd(t *testing.T, what string, done chan struct{}) {
	t.Helper()
	select {
	case <-done:
	case <-time.After(soon):
		t.Fatalf("%s: it does not end", what)
	}
}

func mustWait(t *testing.T, what string, done chan struct{}) {
	t.Helper()
	select {
	case <-done:
		t.Fatalf("%s: it does not wait", what)
	case <-time.After(aWhile):
	}
}

func hasCome(done chan struct{}) bool {
	select {
	case <-done:
		return true
	default:
		return false
	}
}

// diary is what clients write down, one after another: without a lock, as no two of them ever run at one time.
type diary struct{ lines []string }

func (d *diary) add(line string, parts ...any) {
	d.lines = append(d.lines, fmt.Sprintf(line, parts...))
}

// dice makes programs and scripts that are the same in each run.
type dice struct{ *rand.Rand }

func newDice(seed int64) dice { return dice{rand.New(rand.NewSource(seed))} }

func (d dice) script(n int) []int {
	var all []int
	for range n {
		all = append(all, d.Intn(1000)-200)
	}
	return all
}
