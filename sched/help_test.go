package sched_test

import (
	"fmt"
	"math"
	"math/rand"
	"reflect"
	"strings"
	"testing"

	"docket/api"
	"docket/sched"
)

// The edges as the chapter writes them, so that a test does not follow a limit that another one stands for.
const (
	mostClients = 16
	longestRun  = 262144
	tooMany     = api.Errno(90)
	tooLong     = api.Errno(1)
	allNumbers  = 720720 // the least multiple of all numbers from 1 to 16
)

// How a client ends, as the chapter numbers it.
const (
	wasStopped = 0
	hasEnded   = 1
	panicked   = 2
)

// client is a body: the word is short, as the tests have many.
type client = func(*sched.Client)

// step is one of that kind, with an Obj and a Num of its own.
func step(kind int) api.Step { return api.Step{Kind: kind, Obj: 10 * kind, Num: -kind} }

// steps takes so many of the kinds 1, 2, .., always ready.
func steps(n int) client {
	return func(c *sched.Client) {
		for i := range n {
			c.Step(step(i+1), nil, nil)
		}
	}
}

// endless takes steps as long as it is picked.
func endless(c *sched.Client) {
	for kind := 1; ; kind++ {
		c.Step(step(kind), nil, nil)
	}
}

// never waits with a step that is never ready.
func never(c *sched.Client) {
	c.Step(step(9), func() bool { return false }, nil)
}

func times(n int, body client) []client {
	var all []client
	for range n {
		all = append(all, body)
	}
	return all
}

func mustRun(t *testing.T, bodies []client, script ...int) api.Run {
	t.Helper()
	r, e := sched.Run(bodies, script)
	if e != api.OK {
		t.Fatalf("%d clients, %d entries: %d", len(bodies), len(script), e)
	}
	if r.Used != len(r.Events) {
		t.Fatalf("%d entries were used for %d events", r.Used, len(r.Events))
	}
	if len(r.Ends) != len(bodies) || len(r.Waits) != len(bodies) {
		t.Fatalf("of %d clients: Ends %v, Waits %v", len(bodies), r.Ends, r.Waits)
	}
	return r
}

// events writes each as its client's number and a letter for its kind, and looks whether the rest of the step is as step made it.
func events(t *testing.T, r api.Run) string {
	t.Helper()
	var all []string
	for _, e := range r.Events {
		if e.Step != step(e.Step.Kind) {
			t.Fatalf("the step %v was never taken", e.Step)
		}
		all = append(all, fmt.Sprintf("%d%c", e.Client, 'A'+e.Step.Kind-1))
	}
	return strings.Join(all, " ")
}

// picked is the clients' numbers of the events.
func picked(r api.Run) []int {
	var all []int
	for _, e := range r.Events {
		all = append(all, e.Client)
	}
	return all
}

// notes writes each as At, client, kind and text.
func notes(r api.Run) string {
	var all []string
	for _, n := range r.Notes {
		all = append(all, fmt.Sprintf("%d:%d:%d:%s", n.At, n.Client, n.Kind, n.Text))
	}
	return strings.Join(all, " ")
}

// sameRuns takes a nil list and an empty one as the same.
func sameRuns(a, b api.Run) bool {
	return reflect.DeepEqual(filled(a), filled(b))
}

func filled(r api.Run) api.Run {
	r.Events = append([]api.Event{}, r.Events...)
	r.Notes = append([]api.Note{}, r.Notes...)
	r.Ends = append([]int{}, r.Ends...)
	r.Waits = append([]api.Step{}, r.Waits...)
	return r
}

func wantEnds(t *testing.T, r api.Run, ends ...int) {
	t.Helper()
	if fmt.Sprint(r.Ends) != fmt.Sprint(ends) {
		t.Errorf("Ends: %v; want %v", r.Ends, ends)
	}
}

// diary is what several clients write down, one after another: without a lock, as no two of them ever run at one time.
type diary struct{ lines []string }

func (d *diary) add(line string, parts ...any) {
	d.lines = append(d.lines, fmt.Sprintf(line, parts...))
}

func (d *diary) want(t *testing.T, lines ...string) {
	t.Helper()
	if strings.Join(d.lines, "\n") != strings.Join(lines, "\n") {
		t.Errorf("this was done:\n%s\nwant:\n%s", strings.Join(d.lines, "\n"), strings.Join(lines, "\n"))
	}
}

// dice makes scripts and programs that are the same in each run.
type dice struct{ *rand.Rand }

func newDice(seed int64) dice { return dice{rand.New(rand.NewSource(seed))} }

// entry is small, below 0, or of any size.
func (d dice) entry() int {
	switch d.Intn(8) {
	case 0:
		return -d.Intn(40)
	case 1:
		return int(d.Uint64())
	case 2:
		return []int{math.MinInt, math.MinInt + 1, math.MaxInt, math.MaxInt - 1}[d.Intn(4)]
	}
	return d.Intn(40)
}

func (d dice) script(n int) []int {
	var all []int
	for range n {
		all = append(all, d.entry())
	}
	return all
}
