package sched_test

import (
	"math"
	"runtime"
	"slices"
	"sync"
	"testing"
	"time"

	"docket/api"
	"docket/sched"
)

// playAll is a run of programs, with what they did.
func playAll(t *testing.T, all []program, script []int) (api.Run, *shared) {
	t.Helper()
	s := &shared{}
	return mustRun(t, s.bodies(all), script...), s
}

// P9.1 to P9.4: any programs under any script, held against the chapter's words.
func TestWords(t *testing.T) {
	d := newDice(1)
	ends := map[int]int{}
	stuck, cut, over, held := 0, 0, 0, 0
	for range 20000 {
		all, script := d.programs(5), d.script(d.Intn(30))
		w := byWords(all, script)
		r, s := playAll(t, all, script)
		if !sameRuns(r, w.run) {
			t.Fatalf("%+v under %v:\n%v\nwant\n%v", all, script, r, w.run)
		}
		if s.numbers != w.numbers || !slices.Equal(s.lines, w.lines) {
			t.Fatalf("%+v under %v: they did\n%q\nwant\n%q", all, script, s.lines, w.lines)
		}
		for i, end := range r.Ends {
			ends[end]++
			if end == wasStopped && all[i].holds && len(all[i].more) > 0 {
				held++
			}
		}
		switch {
		case r.Stuck:
			stuck++
		case slices.Contains(r.Ends, wasStopped):
			cut++
		default:
			over++
		}
	}
	for what, n := range map[string]int{"stopped": ends[wasStopped], "ended": ends[hasEnded], "panicked": ends[panicked], "stuck": stuck, "cut off": cut, "over": over, "stopped, and went on": held} {
		if n < 1000 {
			t.Errorf("%s: %d only", what, n)
		}
	}
}

// P9.1: of two clients with three steps each every schedule is played, by all scripts of 0 and 1.
func TestEverySchedule(t *testing.T) {
	seen := map[string]int{}
	for bits := range 1 << 6 {
		var script []int
		for i := range 6 {
			script = append(script, bits>>i&1)
		}
		seen[events(t, mustRun(t, times(2, steps(3)), script...))]++
	}
	if len(seen) != 20 { // 6 over 3
		t.Errorf("%d schedules; want 20", len(seen))
	}
}

// P9.5: one value, on however many processors.
func TestOneValue(t *testing.T) {
	d := newDice(5)
	defer runtime.GOMAXPROCS(runtime.GOMAXPROCS(0))
	for range 300 {
		all, script := d.programs(6), d.script(d.Intn(40))
		first, did := playAll(t, all, script)
		for _, n := range []int{1, 2, 4} {
			runtime.GOMAXPROCS(n)
			again, does := playAll(t, all, script)
			if !sameRuns(first, again) || !slices.Equal(did.lines, does.lines) {
				t.Fatalf("%+v under %v:\n%v\n%v", all, script, first, again)
			}
		}
	}
}

// P9.5: runs beside one another have nothing to do with each other.
func TestRunsBesideOneAnother(t *testing.T) {
	var all sync.WaitGroup
	for n := range 8 {
		all.Add(1)
		go func() {
			defer all.Done()
			d := newDice(int64(500 + n))
			for range 300 {
				programs, script := d.programs(4), d.script(d.Intn(20))
				s, w := &shared{}, byWords(programs, script)
				if r, e := sched.Run(s.bodies(programs), script); e != api.OK || !sameRuns(r, w.run) {
					t.Errorf("%+v under %v: %v", programs, script, r)
				}
			}
		}()
	}
	all.Wait()
}

// P9.6.
func TestBeginnings(t *testing.T) {
	d := newDice(6)
	shorter := 0
	for range 500 {
		all, script := d.programs(4), d.script(d.Intn(20))
		whole, _ := playAll(t, all, script)
		for n := range script {
			part, _ := playAll(t, all, script[:n])
			if len(part.Events) > len(whole.Events) || !slices.Equal(part.Events, whole.Events[:len(part.Events)]) {
				t.Fatalf("%+v under %v: %v; under its first %d: %v", all, script, whole.Events, n, part.Events)
			}
			if len(part.Notes) > len(whole.Notes) || !slices.Equal(part.Notes, whole.Notes[:len(part.Notes)]) {
				t.Fatalf("%+v under %v: %v; under its first %d: %v", all, script, whole.Notes, n, part.Notes)
			}
			if part.Used != min(n, whole.Used) {
				t.Fatalf("%+v: of %d entries %d are used, of its first %d %d", all, len(script), whole.Used, n, part.Used)
			}
			if len(part.Events) < len(whole.Events) && len(part.Notes) < len(whole.Notes) {
				shorter++
			}
		}
	}
	if shorter < 300 {
		t.Errorf("%d beginnings only were shorter", shorter)
	}
}

// P9.7: what lies between two steps is not divided, however long it takes.
func TestNotDivided(t *testing.T) {
	defer runtime.GOMAXPROCS(runtime.GOMAXPROCS(4))
	const rounds = 20
	sum := 0
	accounts := map[int]int{0: 1000, 1: 0}
	body := func(c *sched.Client) {
		for range rounds {
			c.Step(step(1), nil, nil)
			was := sum
			runtime.Gosched()
			sum = was + 1
			taken := accounts[0]
			accounts[0] = 0
			runtime.Gosched()
			accounts[1] += taken
			c.Step(step(2), nil, func() {
				was := sum
				runtime.Gosched()
				sum = was + 1
				if accounts[0]+accounts[1] != 1000 {
					t.Errorf("%v", accounts)
				}
			})
		}
	}
	script := newDice(7).script(2 * rounds * mostClients)
	mustRun(t, times(mostClients, body), script...)
	if sum != 2*rounds*mostClients {
		t.Errorf("%d; want %d", sum, 2*rounds*mostClients)
	}
}

// P9.8: all entries are used, unless no client is ready.
func TestAllEntriesAreUsed(t *testing.T) {
	d := newDice(8)
	few, all := 0, 0
	for range 2000 {
		programs, script := d.programs(4), d.script(d.Intn(20))
		r, _ := playAll(t, programs, script)
		none := r.Stuck || !slices.Contains(r.Ends, wasStopped)
		if r.Used != len(script) && !none {
			t.Fatalf("%+v: %d of %d entries: %v", programs, r.Used, len(script), r)
		}
		if r.Used < len(script) {
			few++
		} else {
			all++
		}
	}
	if few < 300 || all < 300 {
		t.Errorf("%d with entries left, %d without", few, all)
	}
}

// P9.8: entries of n different remainders pick each of n clients that are always ready, whatever they stand for beside that.
func TestEachIsPicked(t *testing.T) {
	d := newDice(80)
	for n := 1; n <= mostClients; n++ {
		for range 20 {
			script := d.Perm(n)
			for i := range script {
				script[i] += n * (d.Intn(9) - 4)
			}
			r := mustRun(t, times(n, endless), script...)
			seen := make([]int, n)
			for _, c := range picked(r) {
				seen[c]++
			}
			if slices.Min(seen) != 1 || slices.Max(seen) != 1 {
				t.Fatalf("%d clients under %v: %v", n, script, seen)
			}
		}
	}
}

// P9.8: entries that differ by a multiple of all numbers from 1 to 16 lead to the same.
func TestEntriesThatDoTheSame(t *testing.T) {
	for n := 1; n <= mostClients; n++ {
		if allNumbers%n != 0 {
			t.Fatalf("%d is no multiple of %d", allNumbers, n)
		}
	}
	d := newDice(81)
	for range 1500 {
		all, script := d.programs(mostClients), d.script(d.Intn(60))
		other := slices.Clone(script)
		for i, e := range other {
			if e > math.MaxInt/2 || e < math.MinInt/2 {
				e = e % allNumbers
			}
			other[i] = e + allNumbers*(d.Intn(1000001)-500000)
		}
		a, did := playAll(t, all, script)
		b, does := playAll(t, all, other)
		if !sameRuns(a, b) || !slices.Equal(did.lines, does.lines) {
			t.Fatalf("%+v\nunder %v: %v\nunder %v: %v", all, script, a, other, b)
		}
	}
}

// P9.9: behind the run there is no goroutine of it.
func TestAllHaveEnded(t *testing.T) {
	before := runtime.NumGoroutine()
	d := newDice(9)
	for range 500 {
		playAll(t, d.programs(mostClients), d.script(d.Intn(40)))
	}
	for range 100 {
		mustRun(t, times(mostClients, endless), d.script(20)...)
		mustRun(t, times(mostClients, never), d.script(20)...)
	}
	// A goroutine that has told that it ended may be there for a moment more.
	for try := 0; runtime.NumGoroutine() > before; try++ {
		if try == 1000 {
			t.Fatalf("%d goroutines, %d ahead of the runs", runtime.NumGoroutine(), before)
		}
		time.Sleep(time.Millisecond)
	}
}

// P9.9: what bodies do is done when Run answers: their deferred functions too, and nothing follows.
func TestNothingBehindTheRun(t *testing.T) {
	for range 200 {
		begun, ended := 0, 0
		body := func(c *sched.Client) {
			begun++
			defer func() {
				for range 5 {
					runtime.Gosched()
				}
				ended++
			}()
			endless(c)
		}
		mustRun(t, times(mostClients, body), 1, 2, 3)
		if begun != mostClients || ended != mostClients {
			t.Fatalf("%d began, %d ended", begun, ended)
		}
		runtime.Gosched()
		if ended != mostClients {
			t.Fatalf("%d ended behind the run", ended)
		}
	}
}

// Rule 3: the lists that are handed in are not changed, their spare room neither.
func TestHandedIn(t *testing.T) {
	d := newDice(30)
	script := d.script(60)
	was := slices.Clone(script)
	r := mustRun(t, times(4, steps(8)), script[5:20]...)
	if !slices.Equal(script, was) {
		t.Errorf("the script was %v, is %v", was, script)
	}
	spare := 0
	bodies := append(times(2, steps(8)), func(*sched.Client) { spare++ }, nil)
	again := mustRun(t, bodies[:2], script[5:20]...)
	if spare != 0 || bodies[0] == nil || bodies[1] == nil || bodies[2] == nil || bodies[3] != nil {
		t.Error("the bodies were changed, or one ran that was not handed in")
	}
	kept := filled(r)
	for i := range script {
		script[i] = 0
	}
	if !sameRuns(r, kept) || r.Used != 15 || again.Used != 15 {
		t.Errorf("behind a change of the script: %v; was %v", r, kept)
	}
}

// Rule 3: what Run answers is new each time, spare room too.
func TestAnswersAreNew(t *testing.T) {
	body := func(c *sched.Client) {
		c.Note(1, "a")
		c.Step(step(1), nil, nil)
		c.Note(2, "b")
		c.Step(step(2), nil, nil)
	}
	bodies := times(3, body)
	first := mustRun(t, bodies, 0, 1)
	second := mustRun(t, bodies, 0, 1)
	want := filled(second)
	overwrite(first.Events, api.Event{Client: 99})
	overwrite(first.Notes, api.Note{Client: 99})
	overwrite(first.Ends, 99)
	overwrite(first.Waits, step(99))
	if third := mustRun(t, bodies, 0, 1); !sameRuns(second, want) || !sameRuns(third, want) {
		t.Errorf("%v, %v; want %v", second, third, want)
	}
}

// overwrite writes into a list's spare room too.
func overwrite[T any](list []T, by T) {
	list = list[:cap(list)]
	for i := range list {
		list[i] = by
	}
}
