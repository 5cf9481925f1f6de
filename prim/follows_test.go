package prim_test

import (
	"math"
	"runtime"
	"slices"
	"strconv"
	"strings"
	"testing"

	"docket/api"
	"docket/prim"
	"docket/sched"
)

// P10.1: any programs under any script, held against the chapter's table.
func TestWords(t *testing.T) {
	d := newDice(1)
	stuck, cut, over := 0, 0, 0
	kinds := map[[2]int]int{}
	for range 20000 {
		programs, script := d.programs(5, 12), d.script(d.Intn(60))
		plain := &words{}
		want, lines := plain.play(programs, script)
		made := newThings(prim.Scripted())
		r, answers, e := made.play(programs, script)
		if e != api.OK || !slices.Equal(r.Events, want.Events) || !slices.Equal(r.Ends, want.Ends) || !slices.Equal(r.Waits, want.Waits) || r.Stuck != want.Stuck || r.Used != want.Used {
			t.Fatalf("%v under %v:\n%v\nwant\n%v", programs, script, r, want)
		}
		if !slices.Equal(answers, lines) {
			t.Fatalf("%v under %v: told\n%q\nwant\n%q", programs, script, answers, lines)
		}
		wantThings(t, made, plain)
		for _, e := range r.Events {
			kinds[[2]int{e.Step.Kind, e.Step.Obj}]++
		}
		switch {
		case r.Stuck:
			stuck++
		case slices.Contains(r.Ends, wasStopped):
			cut++
		default:
			over++
		}
	}
	if len(kinds) != allActs || stuck < 1000 || cut < 1000 || over < 1000 {
		t.Errorf("of %d calls; %d stuck, %d cut off, %d over", len(kinds), stuck, cut, over)
	}
	for step, n := range kinds {
		if n < 1000 {
			t.Errorf("kind %d of %d: %d times only", step[0], step[1], n)
		}
	}
}

// wantThings looks whether all things stand as they must.
func wantThings(t *testing.T, s *things, want *words) {
	t.Helper()
	for i := range several {
		if isReady(t, s.mutexes[i].Lock) == want.mutexes[i] || stateOf(t, s.rws[i]) != want.rws[i] {
			t.Errorf("locks %d: %v, %v; want %v", i, isReady(t, s.mutexes[i].Lock), stateOf(t, s.rws[i]), want)
		}
		if s.counters[i].Read(nil) != want.counters[i] || s.atomics[i].Load(nil) != want.atomics[i] || s.cells[i].Get(nil) != strconv.FormatInt(want.cells[i], 10) {
			t.Errorf("values %d: %d, %d, %s; want %v", i, s.counters[i].Read(nil), s.atomics[i].Load(nil), s.cells[i].Get(nil), want)
		}
	}
}

// P10.1: with a nil Client all calls are done at once, in any order.
func TestWordsByNobody(t *testing.T) {
	d := newDice(2)
	for range 2000 {
		plain, scripted := &words{}, newThings(prim.Scripted())
		for _, a := range d.acts(40) {
			if got, want := scripted.act(nil, a), plain.act(a); got != want {
				t.Fatalf("%v: %s; want %s", a, got, want)
			}
		}
		wantThings(t, scripted, plain)
	}
}

// P10.2: things of a Real world do the same, as long as nobody has to wait, with a client or without one.
func TestWordsInTheRealWorld(t *testing.T) {
	d := newDice(3)
	for range 2000 {
		acts := d.acts(80)
		plain, real := &words{}, newThings(prim.Real())
		var told, want []string
		body := func(c *sched.Client) {
			for _, a := range acts {
				if plain.ready(a) {
					told = append(told, real.act(c, a))
					want = append(want, plain.act(a))
				}
			}
		}
		done := begin(func() {
			if d.Intn(2) == 0 {
				body(nil)
				return
			}
			if r, _ := sched.Run([]client{body}, nil); len(r.Events) != 0 || r.Ends[0] != hasEnded {
				t.Errorf("in the real world there are steps: %v", r)
			}
		})
		mustEnd(t, "what need not wait", done)
		if !slices.Equal(told, want) {
			t.Fatalf("%v: %q; want %q", acts, told, want)
		}
	}
}

// P10.5 to P10.7 of a trace, by its events and the answers alone.
func TestFollows(t *testing.T) {
	d := newDice(5)
	locks, loads := 0, 0
	for range 8000 {
		programs, script := d.programs(6, 15), d.script(100)
		r, answers, _ := newThings(prim.Scripted()).play(programs, script)
		locks += wantAlone(t, r.Events)
		loads += wantTheLast(t, programs, r.Events, answers)
	}
	if locks < 10000 || loads < 10000 {
		t.Errorf("%d locks, %d loads only", locks, loads)
	}
}

// wantAlone: P10.5 and P10.6; it tells how many StepLocks there were.
func wantAlone(t *testing.T, events []api.Event) int {
	t.Helper()
	type thing struct{ obj, num int }
	held, readers := map[thing]bool{}, map[thing]int{}
	locks := 0
	for i, e := range events {
		x := thing{e.Step.Obj, e.Step.Num}
		switch e.Step.Kind {
		case kindLock:
			if held[x] || readers[x] > 0 {
				t.Fatalf("event %d locks what is held (%v), or has %d readers: %v", i, held[x], readers[x], events)
			}
			held[x] = true
			locks++
		case kindUnlock:
			held[x] = false
		case kindRLock:
			if held[x] {
				t.Fatalf("event %d reads what is held: %v", i, events)
			}
			readers[x]++
		case kindRUnlock:
			readers[x] = max(readers[x]-1, 0)
		}
	}
	return locks
}

// wantTheLast: P10.7; it tells how many Loads, Gets and Reads there were.
func wantTheLast(t *testing.T, programs [][]act, events []api.Event, answers []string) int {
	t.Helper()
	at := make([]int, len(programs))
	last := map[api.Step]string{}
	loads := 0
	for i, e := range events {
		a := programs[e.Client][at[e.Client]]
		at[e.Client]++
		_, answer, _ := strings.Cut(answers[i], ": ")
		thing := api.Step{Obj: e.Step.Obj, Num: e.Step.Num}
		switch e.Step.Kind {
		case kindStore, kindSet:
			last[thing] = strconv.FormatInt(a.by, 10)
		case kindAdd:
			last[thing] = answer
		case kindLoad, kindGet:
			want, there := last[thing]
			if !there {
				want = "0"
			}
			if answer != want {
				t.Fatalf("event %d is told %s; want %s", i, answer, want)
			}
			loads++
		}
	}
	return loads
}

// P10.7: what several add to one counter beside one another is all there, under every script.
func TestAdds(t *testing.T) {
	d := newDice(7)
	for range 200 {
		n := prim.Scripted().Counter(1, 1, math.MaxInt64-20)
		var told []int64
		body := func(c *sched.Client) {
			for range 10 {
				told = append(told, n.Add(c, 1))
			}
		}
		mustRun(t, []client{body, body, body, body}, d.script(40)...)
		for i, got := range told {
			if start := int64(math.MaxInt64 - 20); got != start+int64(i)+1 {
				t.Fatalf("the Add number %d was told %d", i, got)
			}
		}
		if len(told) != 40 {
			t.Fatalf("%d Adds", len(told))
		}
	}
}

// P10.5: what is done under a lock, in several steps, is as if it were one; without the lock it is not so under every script.
func TestUnderALock(t *testing.T) {
	d := newDice(8)
	lost := 0
	for range 500 {
		w := prim.Scripted()
		m, x, y := w.Mutex(1, 1), prim.NewCell(w, 2, 1, 0), prim.NewCell(w, 2, 2, 0)
		body := func(c *sched.Client) {
			for range 5 {
				m.Lock(c)
				x.Set(c, x.Get(c)+1)
				m.Unlock(c)
				y.Set(c, y.Get(c)+1)
			}
		}
		r := mustRun(t, []client{body, body, body}, d.script(90)...)
		if r.Used != 90 || r.Stuck || x.Get(nil) != 15 {
			t.Fatalf("%d of 15: %v", x.Get(nil), r)
		}
		if y.Get(nil) != 15 {
			lost++
		}
	}
	if lost == 0 {
		t.Error("without a lock nothing was ever lost: the steps are not divided")
	}
}

// P10.8 in a script's world: readers never see two halves apart.
func TestHalves(t *testing.T) {
	d := newDice(9)
	for range 300 {
		w := prim.Scripted()
		m, x, y := w.RWMutex(1, 1), prim.NewCell(w, 2, 1, 0), prim.NewCell(w, 2, 2, 0)
		writer := func(c *sched.Client) {
			for range 4 {
				m.Lock(c)
				x.Set(c, x.Get(c)+1)
				y.Set(c, y.Get(c)+1)
				m.Unlock(c)
			}
		}
		reader := func(c *sched.Client) {
			for range 6 {
				m.RLock(c)
				if a, b := x.Get(c), y.Get(c); a != b {
					t.Errorf("%d and %d", a, b)
				}
				m.RUnlock(c)
			}
		}
		r := mustRun(t, []client{reader, writer, reader, writer}, d.script(200)...)
		if r.Stuck || slices.Contains(r.Ends, wasStopped) || x.Get(nil) != 8 || y.Get(nil) != 8 {
			t.Fatalf("%d, %d: %v", x.Get(nil), y.Get(nil), r)
		}
	}
}

// Rule 4: one value, on however many processors.
func TestOneValue(t *testing.T) {
	d := newDice(10)
	defer runtime.GOMAXPROCS(runtime.GOMAXPROCS(0))
	for range 200 {
		programs, script := d.programs(6, 12), d.script(d.Intn(60))
		first, told, _ := newThings(prim.Scripted()).play(programs, script)
		for _, n := range []int{1, 2, 4} {
			runtime.GOMAXPROCS(n)
			again, tells, _ := newThings(prim.Scripted()).play(programs, script)
			if !slices.Equal(first.Events, again.Events) || !slices.Equal(told, tells) || !slices.Equal(first.Waits, again.Waits) {
				t.Fatalf("%v under %v:\n%v\n%v", programs, script, first, again)
			}
		}
	}
}
