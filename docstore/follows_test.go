package docstore_test

import (
	"fmt"
	"slices"
	"strconv"
	"strings"
	"testing"

	"docket/api"
	"docket/docstore"
	"docket/ident"
	"docket/prim"
	"docket/sched"
)

// P24.9 to P24.17: of any calls under any script, those that do not suffice too.
func TestFollows(t *testing.T) {
	ended, stopped := 0, 0
	for seed := range int64(1500) {
		x := newDice(100000 + seed).scene()
		p := mustRun(t, x.c, x.calls, x.script)
		wantAll(t, fmt.Sprintf("%d: %v", seed, x), x.c, emptyModel(t, x.c.Keep), p)
		if slices.Contains(p.Run.Ends, wasStopped) {
			stopped++
		} else {
			ended++
		}
	}
	if ended < 500 || stopped < 200 {
		t.Errorf("%d have ended, %d were stopped", ended, stopped)
	}
}

// P24.9: with as many clients as there may be.
func TestFollowsMany(t *testing.T) {
	for seed := range int64(12) {
		d := newDice(200000 + seed)
		c := api.StoreConfig{Clients: maxClients, Stripes: pick(d, 1, 5, maxStripes), Nodes: pick(d, 30, 5000), Keep: 50}
		var calls [][]string
		for n := range c.Clients {
			var l []string
			if n < 2 {
				l = quotedAll("{'op':'create','in':'c'}", "{'op':'create','in':'c-1'}")
			}
			for range 12 {
				l = append(l, d.raw(d.Intn(5)))
			}
			calls = append(calls, l)
		}
		p := mustRun(t, c, calls, append(d.script(20000), enough()...))
		if slices.Contains(p.Run.Ends, wasStopped) {
			t.Fatal("the script does not suffice")
		}
		wantAll(t, fmt.Sprint(seed), c, emptyModel(t, c.Keep), p)
	}
}

// pairs are requests of which each is played beside each, from a store that has a collection with some documents, and an index.
func pairs() []string {
	return quotedAll(
		insert("a", 5),
		insert("new", 5),
		inc("a", 1),
		"{'op':'delete','in':'c','id':'b'}",
		"{'op':'txn','steps':[{'op':'update','in':'c','id':'b','ops':{'$inc':{'n':-1}}},{'op':'update','in':'c','id':'a','ops':{'$inc':{'n':1}}},{'op':'insert','in':'c','id':'new','value':{'n':7}}]}",
		"{'op':'insert','in':'c','value':{'n':0}}",
		"{'op':'scan','in':'c'}",
		"{'op':'scan','in':'c','filter':{'n':1}}",
		"{'op':'open','in':'c','batch':1}",
		"{'op':'next','cursor':1}",
		"{'op':'close','cursor':1}",
		"{'op':'drop','in':'d'}",
		"{'op':'insert','in':'d','id':'a','value':{}}",
		"{'op':'index','in':'c','name':'y','path':'n','unique':true}",
	)
}

// P24.9: schedules in which one begins and goes on to some step (to every second one), the other goes on to some step of its own (to every third one), and then the first to its end, and the other: of each two kinds of calls.
func TestFewSwitches(t *testing.T) {
	c := api.StoreConfig{Clients: 2, Stripes: 1, Nodes: 16, Keep: 5}
	before := quotedAll("{'op':'create','in':'c','most':7}", insert("a", 1), insert("b", 2), insert("e", 3), insert("f", 4), insert("g", 5), "{'op':'index','in':'c','name':'x','path':'n'}", "{'op':'create','in':'d'}", "{'op':'open','in':'c','batch':2}")
	from := emptyModel(t, c.Keep)
	for n := range 2 {
		for _, raw := range before {
			from, _ = from.Step(n, raw)
		}
	}
	start := func() *docstore.Store {
		s := mustMake(t, prim.Scripted(), c)
		for n := range 2 {
			for _, raw := range before {
				s.Call(nil, n, raw)
			}
		}
		return s
	}
	alone := map[string]int{}
	for _, raw := range pairs() {
		alone[raw] = len(mustPlay(t, start(), [][]string{{raw}, nil}, enough()).Run.Events)
	}
	for _, a := range pairs() {
		t.Run(a, func(t *testing.T) {
			t.Parallel()
			for _, b := range pairs() {
				for i := 1; i < alone[a]; i += 2 {
					for j := 1 + i/2%3; j <= alone[b]; j += 3 {
						script := slices.Concat(make([]int, i), slices.Repeat([]int{1}, j), make([]int, 400))
						p := mustPlay(t, start(), [][]string{{a}, {b}}, script)
						what := fmt.Sprintf("%s to %d, %s to %d", a, i, b, j)
						if slices.Contains(p.Run.Ends, wasStopped) {
							t.Fatal(what, " is stopped")
						}
						wantInOrder(t, what, from, p)
					}
				}
			}
		})
	}
}

// P24.9: of two calls of which one has ended before the other began it is ahead, whatever their points would be: a read behind a change sees it.
func TestAhead(t *testing.T) {
	for i := range 60 {
		s := stocked(t, of(2), "a")
		script := slices.Concat(make([]int, i), slices.Repeat([]int{1}, 30), enough())
		p := mustPlay(t, s, [][]string{quotedAll(inc("a", 5)), quotedAll(get("a"), get("a"))}, script)
		w := p.Calls[slices.IndexFunc(p.Calls, func(x api.Call) bool { return x.Client == 0 })]
		for _, x := range p.Calls {
			if x.Client != 1 {
				continue
			}
			saw := strings.Contains(x.Reply, `"n":5`)
			if x.Began > w.Ended && !saw || x.Ended < w.Began && saw || saw != (x.Point > w.Point) {
				t.Errorf("%d: %+v beside %+v", i, x, w)
			}
		}
	}
}

// P24.10: a read tells one root, be it that others publish between its steps: between each two of them another change goes by.
func TestOneState(t *testing.T) {
	move := "{'op':'txn','steps':[{'op':'update','in':'c','id':'a','ops':{'$inc':{'n':-1}}},{'op':'update','in':'c','id':'b','ops':{'$inc':{'n':1}}},{'op':'update','in':'c','id':'i1','ops':{'$inc':{'n':2}}},{'op':'update','in':'c','id':'i2','ops':{'$inc':{'n':-2}}}]}"
	for _, raw := range quotedAll("{'op':'scan','in':'c','filter':{'n':{'$gt':-99999}}}", "{'op':'aggregate','in':'c','pipe':[{'$group':{'_id':null,'sum':{'$sum':'$n'}}}]}", "{'op':'count','in':'c'}", "{'op':'distinct','in':'c','path':'v'}", "{'op':'stat'}") {
		s := stocked(t, of(2), "a", "b", "i1", "i2", "i3", "i4", "i5", "i6", "i7", "i8")
		var want string
		one := len(mustPlay(t, s, [][]string{quotedAll(move), nil}, enough()).Run.Events)
		reads := mustPlay(t, s, [][]string{nil, {raw}}, enough()).Run.Events
		var script []int
		for range reads {
			script = append(append(script, 1), make([]int, one+100)...)
		}
		var moves []string
		for range 2 * len(reads) {
			moves = append(moves, quoted(move))
		}
		p := mustPlay(t, s, [][]string{moves, {raw}}, script)
		read := p.Calls[slices.IndexFunc(p.Calls, func(x api.Call) bool { return x.Client == 1 })]
		if read.Ended < 0 || len(reads) < 7 && !strings.Contains(raw, "stat") {
			t.Fatalf("%s: %+v, %d steps", raw, read, len(reads))
		}
		// The same moves one by one, as many as stand ahead of its point.
		alone := stocked(t, of(2), "a", "b", "i1", "i2", "i3", "i4", "i5", "i6", "i7", "i8")
		for range 1 + read.Stamp {
			alone.Call(nil, 0, quoted(move))
		}
		if want, _ = alone.Call(nil, 1, raw); read.Reply != want {
			t.Errorf("%s:\n%s, not\n%s", raw, read.Reply, want)
		}
		if read.Stamp == 0 || int(p.End.Stamp) < int(read.Stamp)+len(reads)/2 {
			t.Errorf("%s: its stamp is %d, of %d: nothing was written meanwhile", raw, read.Stamp, p.End.Stamp)
		}
	}
}

// P24.11: wherever a change has come to, with all that it holds, a read goes on alone to its end, by the same steps.
func TestReadersWaitForNobody(t *testing.T) {
	ids := []string{"a", "b", "e", "f", "g", "h"}
	changes := quotedAll(
		inc("a", 1),
		"{'op':'txn','steps':[{'op':'delete','in':'c','id':'a'},{'op':'insert','in':'c','id':'z','value':{}},{'op':'delete','in':'c','id':'b'}]}",
		"{'op':'index','in':'c','name':'x','path':'n'}",
	)
	for _, raw := range quotedAll(get("a"), "{'op':'scan','in':'c'}", "{'op':'stat'}", "{'op':'changes','after':0}") {
		want := tellSteps(mustPlay(t, stocked(t, of(2), ids...), [][]string{nil, {raw}}, enough()).Run.Events)
		for _, change := range changes {
			for i := 0; ; i++ {
				p := mustPlay(t, stocked(t, of(2), ids...), [][]string{{change}, {raw}}, append(make([]int, i), slices.Repeat([]int{1}, 30)...))
				if len(p.Calls) == 0 || p.Calls[0].Ended >= 0 && p.Calls[0].Ended < i {
					break
				}
				read := p.Calls[slices.IndexFunc(p.Calls, func(x api.Call) bool { return x.Client == 1 })]
				l, _ := eventsOf(p, read)
				if read.Ended != i+len(l)-1 {
					t.Fatalf("%s at %d of %s: %+v: %s", raw, i, change, read, tellSteps(l))
				}
				if i == 0 && tellSteps(l) != want {
					t.Fatalf("%s: %s, not %s", raw, tellSteps(l), want)
				}
			}
		}
	}
}

// P24.12: of several that take the same latches in any order, under any script, one is ready always; and all come to their ends.
func TestNoDeadlock(t *testing.T) {
	ids := []string{"a", "b", "e", "f"}
	for seed := range int64(150) {
		d := newDice(300000 + seed)
		c := api.StoreConfig{Clients: 4, Stripes: pick(d, 1, 2, 64), Nodes: 100, Keep: 3}
		var calls [][]string
		for n := range c.Clients {
			l := quotedAll("{'op':'create','in':'c'}")
			for range 3 {
				var steps []string
				for _, i := range d.Perm(len(ids)) {
					steps = append(steps, inc(ids[i], n))
				}
				l = append(l, quoted("{'op':'txn','steps':["+strings.Join(steps, ",")+"]}"))
			}
			calls = append(calls, l)
		}
		p := mustRun(t, c, calls, append(d.script(3000), enough()...))
		if p.Run.Stuck || slices.Contains(p.Run.Ends, wasStopped) {
			t.Fatalf("%d: %v, waiting with %v", seed, p.Run.Ends, p.Run.Waits)
		}
		for _, x := range p.End.Docs {
			if x.Value.Items[0].Int != 18 {
				t.Fatalf("%d: %+v", seed, p.End.Docs)
			}
		}
	}
}

// deepIds are ids whose sums have as many of their lowest digits alike.
func deepIds(n, digits int) []string {
	met := map[uint64][]string{}
	for i := 0; ; i++ {
		id := "k" + strconv.Itoa(i)
		part := ident.Hash(id) & (1<<(4*digits) - 1)
		if met[part] = append(met[part], id); len(met[part]) == n {
			return met[part]
		}
	}
}

// P24.13: a get within 25, others within their bounds, where the tree is deep, and where much was retired and is freed at last.
func TestBounds(t *testing.T) {
	ids := deepIds(6, 5)
	c := api.StoreConfig{Clients: maxClients, Stripes: 1, Nodes: 1000, Keep: 3}
	first := quotedAll("{'op':'create','in':'c'}", "{'op':'open','in':'c'}")
	for i, id := range ids {
		first = append(first, quoted(insert(id, i)))
	}
	for i := range 40 {
		first = append(first, quoted(inc(ids[i%len(ids)], 1)))
	}
	for _, id := range ids {
		first = append(first, quoted(get(id)))
	}
	first = append(first, quotedAll("{'op':'close','cursor':1}", inc(ids[0], 1), "{'op':'scan','in':'c'}", "{'op':'txn','steps':["+strings.Join([]string{inc(ids[0], 1), inc(ids[1], 1), "{'op':'delete','in':'c','id':'" + ids[2] + "'}"}, ",")+"]}")...)
	for _, id := range ids[3:] {
		first = append(first, quoted("{'op':'delete','in':'c','id':'"+id+"'}"))
	}
	p := mustRun(t, c, append([][]string{first}, make([][]string, maxClients-1)...), enough())
	if slices.Contains(p.Run.Ends, wasStopped) || p.End.Made < 200 {
		t.Fatalf("%v, %d nodes", p.Run.Ends, p.End.Made)
	}
	deep, freed := 0, 0
	for _, x := range p.Calls {
		l, _ := eventsOf(p, x)
		if strings.Contains(x.Raw, `"get"`) {
			deep = max(deep, len(l))
		}
		freed = max(freed, len(l))
	}
	if deep < 12 || deep > 25 || freed < 800 {
		t.Errorf("a get of %d steps, a change of %d", deep, freed)
	}
	wantAll(t, "deep", c, emptyModel(t, c.Keep), p)
}

// P24.15: a cursor that is open, and reads under way, hold what they read, however much is written and used again meanwhile; the heap has hardly room.
func TestNothingTooSoon(t *testing.T) {
	for seed := range int64(60) {
		d := newDice(400000 + seed)
		c := api.StoreConfig{Clients: 3, Stripes: 1, Nodes: 14 + d.Intn(12), Keep: 3}
		ids := []string{"a", "b", "e", "f", "g"}
		var puts []string
		for range 60 {
			puts = append(puts, quoted(inc(pick(d, ids...), 1)))
		}
		s := stocked(t, c, ids...)
		from := emptyModel(t, c.Keep)
		for _, raw := range append([]string{"{'op':'create','in':'c'}"}, insert("a", 0), insert("b", 1), insert("e", 2), insert("f", 3), insert("g", 4)) {
			from, _ = from.Step(0, quoted(raw))
		}
		pages := quotedAll("{'op':'open','in':'c','batch':1}", "{'op':'next','cursor':1}", "{'op':'open','in':'c','batch':2}", "{'op':'next','cursor':2}", "{'op':'next','cursor':1}", "{'op':'next','cursor':2}", "{'op':'close','cursor':2}", "{'op':'next','cursor':1}", "{'op':'next','cursor':1}", "{'op':'next','cursor':1}", "{'op':'close','cursor':1}")
		p := mustPlay(t, s, [][]string{puts, pages, quotedAll("{'op':'scan','in':'c'}", "{'op':'scan','in':'c'}", get("a"), "{'op':'scan','in':'c'}")}, append(d.script(2000), enough()...))
		wantAll(t, fmt.Sprint(seed), c, from, p)
		wantSettled(t, s)
	}
}

// wantSettled: P24.16, of a store of which no call is under way and no cursor is open.
func wantSettled(t *testing.T, s *docstore.Store) {
	t.Helper()
	was := s.End()
	freed := s.Settle()
	x := s.End()
	if freed != was.Retired || x.Retired != 0 || x.Made-x.Pooled != x.Reached || x.Made != was.Made || x.Pooled != was.Pooled+freed || x.Entries != 0 || slices.Max(x.Pins) != 0 || slices.Min(x.Pins) != 0 {
		t.Fatalf("freed %d: %+v, ahead of it %+v", freed, x, was)
	}
}

// P24.16: behind Settle, of any calls that have ended, and whose cursors are closed then; and P24.7: what Settle tells.
func TestSettled(t *testing.T) {
	some := 0
	for seed := range int64(300) {
		x := newDice(500000 + seed).scene()
		s := mustMake(t, prim.Scripted(), x.c)
		p := mustPlay(t, s, x.calls, append(x.script, enough()...))
		if slices.Contains(p.Run.Ends, wasStopped) {
			t.Fatalf("%v: the script does not suffice", x)
		}
		for n := range x.c.Clients {
			for number := range 20 {
				s.Call(nil, n, quoted("{'op':'close','cursor':"+strconv.Itoa(number+1)+"}"))
			}
		}
		if s.End().Retired > 0 {
			some++
		}
		wantSettled(t, s)
		wantSettled(t, s)
	}
	if some < 10 {
		t.Errorf("something was retired only %d times", some)
	}
}

// P24.16: what a cursor holds is there until it is closed, and no longer.
func TestHeldByCursor(t *testing.T) {
	s := stocked(t, of(2), "a", "b", "e", "f", "g")
	mustCall(t, s, 1, "{'op':'open','in':'c'}")
	pinned := s.End().Stamp
	for range 10 {
		mustCall(t, s, 0, inc("a", 1))
	}
	x := s.End()
	if freed := s.Settle(); freed != 0 || x.Retired < 10 || s.End().Retired != x.Retired || x.Pins[2+maxCursors] != pinned+1 {
		t.Errorf("%d freed: %+v", freed, x)
	}
	mustCall(t, s, 1, "{'op':'close','cursor':1}")
	wantSettled(t, s)
}

// P24.16: wherever a run is cut off, where no change holds the commit lock the live nodes are just those reached and those retired.
func TestNodesAlways(t *testing.T) {
	ids := []string{"a", "b", "e", "f", "g"}
	calls := [][]string{quotedAll(inc("a", 1), "{'op':'delete','in':'c','id':'b'}", insert("z", 1), insert("b", 1)), quotedAll("{'op':'open','in':'c','batch':1}", "{'op':'next','cursor':1}", "{'op':'close','cursor':1}", get("a"))}
	d := newDice(7)
	script := d.script(200)
	free, more := 0, 0
	for i := range script {
		c := of(2)
		c.Nodes = 9
		s := stocked(t, c, ids...)
		p := mustPlay(t, s, calls, script[:i])
		held := 0
		for _, x := range p.Run.Events {
			switch x.Step {
			case api.Step{Kind: kindLock, Obj: objCommit}:
				held++
			case api.Step{Kind: kindUnlock, Obj: objCommit}:
				held--
			}
		}
		e := p.End
		switch {
		case s.Live() != e.Made-e.Pooled || held == 0 && s.Live() != e.Reached+e.Retired:
			t.Errorf("at %d: %d live: %+v", i, s.Live(), e)
		case held == 0:
			free++
		case s.Live() > e.Reached+e.Retired:
			more++
		}
	}
	if free < 20 || more < 5 {
		t.Errorf("the lock was free %d times, and a change had nodes %d times", free, more)
	}
}

// P24.17: whoever is stopped, at whatever step, ends stopped: what it holds is given back by nobody, and nothing panics by itself.
func TestStoppedAnywhere(t *testing.T) {
	for _, raw := range pairs() {
		for i := 0; ; i++ {
			s := stocked(t, of(1), "a", "b", "e", "f", "g")
			was := s.End()
			p := mustPlay(t, s, [][]string{{raw}}, make([]int, i))
			if p.Run.Ends[0] == hasEnded {
				break
			}
			if p.Run.Ends[0] != wasStopped || len(p.Run.Events) != i || p.Run.Stuck {
				t.Fatalf("%s, stopped at %d: %+v", raw, i, p.Run)
			}
			published := slices.ContainsFunc(p.Run.Events, func(x api.Event) bool { return x.Step == api.Step{Kind: kindStore, Obj: objKeeper} })
			if now := s.End(); now.Stamp != was.Stamp && !published || tellKept(now.Stamp, now.Colls, now.Docs) == tellKept(was.Stamp, was.Colls, was.Docs) == published {
				t.Fatalf("%s, stopped at %d: %+v, ahead of it %+v", raw, i, now, was)
			}
		}
	}
}

// P24.9: small runs whose clients go on beside one another on a store of long standing: a second and third run on one store.
func TestRunsOnOneStore(t *testing.T) {
	for seed := range int64(80) {
		d := newDice(600000 + seed)
		c := api.StoreConfig{Clients: 3, Stripes: 2, Nodes: 300, Keep: 8}
		s := mustMake(t, prim.Scripted(), c)
		from := emptyModel(t, c.Keep)
		for round := range 3 {
			var calls [][]string
			for range c.Clients {
				l := quotedAll("{'op':'create','in':'c'}")
				for range 5 {
					l = append(l, d.raw(d.Intn(5)))
				}
				calls = append(calls, l)
			}
			p := mustPlay(t, s, calls, append(d.script(800), enough()...))
			wantInOrder(t, fmt.Sprint(seed, " ", round), from, p)
			from, _ = faultOf(from, p.Calls, nil)
		}
	}
}

// P24.9: the whole of it once more where clients make their calls by sched.Run themselves: what Call answers is what the run tells.
func TestCallAnswers(t *testing.T) {
	for seed := range int64(60) {
		x := newDice(700000 + seed).scene()
		p := mustRun(t, x.c, x.calls, x.script)
		s := mustMake(t, prim.Scripted(), x.c)
		var got []api.Call
		var bodies []func(*sched.Client)
		for n, raws := range x.calls {
			bodies = append(bodies, func(c *sched.Client) {
				for _, raw := range raws {
					reply, stamp := s.Call(c, n, raw)
					got = append(got, api.Call{Client: n, Raw: raw, Reply: reply, Stamp: stamp})
				}
			})
		}
		r, e := sched.Run(bodies, x.script)
		if e != isOK || tellRun(r.Events) != tellRun(p.Run.Events) {
			t.Fatalf("%v: another run", x)
		}
		ended := slices.DeleteFunc(slices.Clone(p.Calls), func(x api.Call) bool { return x.Ended < 0 })
		slices.SortFunc(ended, func(a, b api.Call) int { return a.Ended - b.Ended })
		for i := range ended {
			ended[i].Began, ended[i].Point, ended[i].Ended = 0, 0, 0
		}
		if !slices.Equal(got, ended) {
			t.Fatalf("%v:\n%s\nnot\n%s", x, tellCalls(got), tellCalls(ended))
		}
	}
}
