package stripe_test

import (
	"fmt"
	"hash/fnv"
	"math/rand"
	"slices"
	"testing"

	"docket/api"
	"docket/prim"
	"docket/sched"
	"docket/stripe"
)

// The kinds as chapter 10 numbers them, so that a test does not follow a number that another one stands for.
const (
	kindLock    = 1
	kindUnlock  = 2
	kindRLock   = 3
	kindRUnlock = 4
	kindLoad    = 5
	kindAdd     = 7
	kindGet     = 8
	kindSet     = 9
)

// How a client ends, as chapter 9 numbers it.
const (
	wasStopped  = 0
	hasEnded    = 1
	hasPanicked = 2
)

// The limits and the errors as the document numbers them.
const (
	maxStripeNum = 64
	slotLoad     = 4
	isOK         = 0
	isArg        = 2
)

// The objs of a test's table, as in the chapter's examples: from objLock on.
const (
	objLock   = 1
	objBucket = 2
	objLatch  = 3
	objUsers  = 4
)

// client is a body: the word is short, as the tests have many.
type client = func(*sched.Client)

func worlds() []*prim.World { return []*prim.World{prim.Scripted(), prim.Real(), nil} }

func mustTable(t *testing.T, w *prim.World, stripes int) *stripe.Table {
	t.Helper()
	table, e := stripe.New(w, objLock, stripes)
	if table == nil || e != isOK {
		t.Fatalf("a table of %d stripes: %v, %d", stripes, table, e)
	}
	return table
}

// stripeOf: chapter 8's, by the library's own sum.
func stripeOf(key string, stripes int) int {
	h := fnv.New64a()
	h.Write([]byte(key))
	return int(h.Sum64() % uint64(stripes))
}

// keysOf is n keys that lie in the stripe s.
func keysOf(s, stripes, n int) []string {
	var keys []string
	for i := 0; len(keys) < n; i++ {
		if key := fmt.Sprint("c/", i); stripeOf(key, stripes) == s {
			keys = append(keys, key)
		}
	}
	return keys
}

// wantTake looks at what a Take tells.
func wantTake(t *testing.T, table *stripe.Table, key string, num int) *stripe.Entry {
	t.Helper()
	e := table.Take(nil, key)
	wantEntry(t, e, key, num)
	return e
}

func wantEntry(t *testing.T, e *stripe.Entry, key string, num int) {
	t.Helper()
	if e == nil || e.Key() != key || e.Num() != num {
		t.Errorf("the entry %q %d; want %q %d", e.Key(), e.Num(), key, num)
	}
}

func wantEntries(t *testing.T, table *stripe.Table, want int) {
	t.Helper()
	if got := table.Entries(); got != want {
		t.Errorf("%d entries; want %d", got, want)
	}
}

func wantSlots(t *testing.T, table *stripe.Table, s, want int) {
	t.Helper()
	if got := table.Slots(s); got != want {
		t.Errorf("stripe %d: %d slots; want %d", s, got, want)
	}
}

// mustRun is a run in which no client panics.
func mustRun(t *testing.T, bodies []client, script ...int) api.Run {
	t.Helper()
	r, e := sched.Run(bodies, script)
	if e != api.OK || slices.Contains(r.Ends, hasPanicked) {
		t.Fatalf("%d clients, %d entries: %d, ends %v", len(bodies), len(script), e, r.Ends)
	}
	return r
}

// mustEnd is a run in which all clients come to their end.
func mustEnd(t *testing.T, bodies []client, script ...int) api.Run {
	t.Helper()
	r := mustRun(t, bodies, script...)
	for i, e := range r.Ends {
		if e != hasEnded {
			t.Fatalf("client %d waits with %v; stuck: %v", i, r.Waits[i], r.Stuck)
		}
	}
	return r
}

// stepsOf one client alone, as far as they come in n picks.
func stepsOf(t *testing.T, n int, body client) []api.Step {
	t.Helper()
	var all []api.Step
	for _, e := range mustRun(t, []client{body}, make([]int, n)...).Events {
		all = append(all, e.Step)
	}
	return all
}

func wantSteps(t *testing.T, what string, body client, want ...api.Step) {
	t.Helper()
	if got := stepsOf(t, 2000, body); !slices.Equal(got, want) {
		t.Errorf("%s: steps %v; want %v", what, got, want)
	}
}

func at(kind, obj, num int) api.Step { return api.Step{Kind: kind, Obj: obj, Num: num} }

// dice makes programs and scripts that are the same in each run.
type dice struct{ *rand.Rand }

func newDice(seed int64) dice { return dice{rand.New(rand.NewSource(seed))} }

func (d dice) script(n int) []int {
	var all []int
	for range n {
		all = append(all, d.Intn(1000)-200)
	}
	return all
}
