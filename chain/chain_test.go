package chain_test

import (
	"fmt"
	"math/rand"
	"slices"
	"testing"

	"docket/api"
	"docket/chain"
	"docket/prim"
	"docket/sched"
)

const lockObj = 7

// same tells whether two runs are; a list that is nil is as one that is empty.
func same(a, b api.Run) bool {
	return slices.Equal(a.Events, b.Events) && slices.Equal(a.Ends, b.Ends) && slices.Equal(a.Waits, b.Waits) && a.Stuck == b.Stuck && a.Used == b.Used
}

// program is how many steps a client takes, how many of them under the lock, and whether it locks twice and so waits for ever.
type program struct {
	ahead, within int
	twice         bool
}

// link is the program's chain: it tells what it does as it does it.
func (p program) link(n int, l *chain.Lock, tell func(string)) *chain.Link {
	steps := func(kind, count int, then func() *chain.Link) *chain.Link {
		next := then
		for i := range count {
			after := next
			next = func() *chain.Link {
				return chain.Of(api.Step{Kind: kind, Num: n}, func() *chain.Link {
					tell(fmt.Sprint(n, kind, i))
					return after()
				})
			}
		}
		return next()
	}
	end := func() *chain.Link { return nil }
	locked := func() *chain.Link {
		return l.Around(lockObj, func(then func() *chain.Link) *chain.Link {
			if p.twice {
				then = func() *chain.Link { return l.Around(lockObj, func(func() *chain.Link) *chain.Link { return nil }, end) }
			}
			return steps(101, p.within, then)
		}, end)
	}
	return steps(100, p.ahead, locked)
}

func (p program) body(m *prim.Mutex, tell func(string)) func(*sched.Client) {
	return func(c *sched.Client) {
		steps := func(kind, count int) {
			for i := range count {
				c.Step(api.Step{Kind: kind, Num: c.Number()}, nil, func() { tell(fmt.Sprint(c.Number(), kind, count-1-i)) })
			}
		}
		steps(100, p.ahead)
		m.Lock(c)
		steps(101, p.within)
		if p.twice {
			m.Lock(c)
		}
		m.Unlock(c)
	}
}

// A run of chains is that of clients who take these steps.
func TestPlay(t *testing.T) {
	d := rand.New(rand.NewSource(1))
	stuck, cut := 0, 0
	for range 5000 {
		programs := make([]program, d.Intn(5))
		for i := range programs {
			programs[i] = program{d.Intn(4), d.Intn(4), d.Intn(12) == 0}
		}
		script := make([]int, d.Intn(50))
		for i := range script {
			script[i] = d.Intn(1000) - 300
		}
		lock, m := &chain.Lock{}, prim.Scripted().Mutex(lockObj, 0)
		if d.Intn(4) == 0 {
			lock, m = nil, nil
		}
		var done, want []string
		var links []*chain.Link
		var bodies []func(*sched.Client)
		for i, p := range programs {
			links = append(links, p.link(i, lock, func(s string) { done = append(done, s) }))
			bodies = append(bodies, p.body(m, func(s string) { want = append(want, s) }))
		}
		before := slices.Clone(links)
		got := chain.Play(links, script)
		run, _ := sched.Run(bodies, script)
		if !same(got, run) || !slices.Equal(done, want) {
			t.Fatalf("%v under %v:\n%v\n%q\nwant\n%v\n%q", programs, script, got, done, run, want)
		}
		if !slices.Equal(links, before) {
			t.Fatal("what was handed in was changed")
		}
		if got.Stuck {
			stuck++
		} else if slices.Contains(got.Ends, 0) {
			cut++
		}
	}
	if stuck < 300 || cut < 300 {
		t.Errorf("%d runs were stuck, %d cut off", stuck, cut)
	}
}

// By nobody all steps are done, ready or not.
func TestDone(t *testing.T) {
	var done []string
	chain.Done(program{2, 1, true}.link(0, &chain.Lock{}, func(s string) { done = append(done, s) }))
	if want := []string{"0 100 1", "0 100 0", "0 101 0"}; !slices.Equal(done, want) {
		t.Errorf("%q; want %q", done, want)
	}
	chain.Done(nil)
}

// every tells how many schedules there are of programs, each of which must lead to an end of its own.
func every(t *testing.T, locked bool, programs ...program) int {
	t.Helper()
	start := func() []*chain.Link {
		var lock *chain.Lock
		if locked {
			lock = &chain.Lock{}
		}
		var links []*chain.Link
		for i, p := range programs {
			links = append(links, p.link(i, lock, func(string) {}))
		}
		return links
	}
	seen := map[string]int{}
	for script := range chain.Every(start) {
		r := chain.Play(start(), script)
		longer := chain.Play(start(), append(slices.Clone(script), 0))
		if r.Used != len(script) || !same(r, longer) {
			t.Errorf("%v under %v: %v, and with an entry more %v", programs, script, r, longer)
		}
		seen[fmt.Sprint(r.Events)]++
		clear(script[:cap(script)]) // it is the test's own
	}
	for events, n := range seen {
		if n != 1 {
			t.Errorf("%v: %s %d times", programs, events, n)
		}
	}
	return len(seen)
}

// Each schedule is told, and each once.
func TestEvery(t *testing.T) {
	for _, x := range []struct {
		locked   bool
		programs []program
		want     int
	}{
		{false, nil, 1},
		{false, []program{{0, 0, false}}, 1},
		{false, []program{{3, 0, false}}, 1},
		{false, []program{{1, 0, false}, {1, 0, false}}, 2},
		{false, []program{{2, 0, false}, {3, 0, false}}, 10},
		{false, []program{{4, 0, false}, {4, 0, false}}, 70},
		{false, []program{{2, 0, false}, {1, 1, false}, {2, 0, false}}, 90},
		{true, []program{{0, 1, false}, {0, 5, false}}, 2},          // each of them whole
		{true, []program{{1, 0, false}, {0, 0, false}}, 4},          // one step, and two under the lock; these, whole, by the place of that step: 3, 1
		{true, []program{{0, 0, true}, {0, 1, false}}, 2},           // the first waits for ever, and so does the other one, unless it came first
		{true, []program{{0, 0, true}, {0, 0, true}}, 2},            // whoever comes first waits for itself
		{false, []program{{1, 0, false}, {}, {1, 0, false}, {}}, 2}, // some have ended at once
		{true, []program{{0, 0, false}, {0, 0, false}, {}}, 6},      // by their order
		{false, []program{{5, 1, false}, {4, 2, false}}, 924},       // 12 of which 6
		{false, []program{{2, 0, false}, {2, 0, false}, {2, 0, false}, {2, 0, false}}, 2520},
	} {
		if got := every(t, x.locked, x.programs...); got != x.want {
			t.Errorf("%v: %d schedules; want %d", x.programs, got, x.want)
		}
	}
}

// Whoever has seen enough ends it.
func TestEveryIsLeft(t *testing.T) {
	start := func() []*chain.Link {
		p := program{ahead: 9}
		return []*chain.Link{p.link(0, nil, func(string) {}), p.link(1, nil, func(string) {})}
	}
	n := 0
	for range chain.Every(start) {
		if n++; n == 5 {
			break
		}
	}
	if n != 5 {
		t.Errorf("%d", n)
	}
}
