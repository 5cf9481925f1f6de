package docstore_test

import (
	"cmp"
	"fmt"
	"slices"
	"strconv"
	"strings"
	"testing"

	"docket/api"
	"docket/docstore"
	"docket/model"
	"docket/prim"
	"docket/sched"
)

// answered is a call that a client of the real world made, and what it was told.
type answered struct {
	client, number int
	raw, reply     string
	stamp          int64
	place          int64 // twice the stamp of the state behind which it stands, and one more for what does not change it
}

// beside makes calls by as many clients, really beside one another: all that they were told.
func beside(s *docstore.Store, calls [][]string) []answered {
	all := make([][]answered, len(calls))
	var bodies []func()
	for n, raws := range calls {
		bodies = append(bodies, func() {
			place := int64(1)
			for i, raw := range raws {
				reply, stamp := s.Call(nil, n, raw)
				switch {
				case stamp >= 0 && isStamped(raw):
					place = 2 * stamp
				case stamp >= 0:
					place = 2*stamp + 1
				default:
					place |= 1
				}
				all[n] = append(all[n], answered{n, i, raw, reply, stamp, place})
			}
		})
	}
	prim.Beside(bodies)
	return slices.Concat(all...)
}

// wantOneByOne holds calls of the real world against the model, one by one by their stamps: it tells the state behind them.
func wantOneByOne(t *testing.T, from *model.State, l []answered) *model.State {
	t.Helper()
	slices.SortFunc(l, func(a, b answered) int {
		return cmp.Or(cmp.Compare(a.place, b.place), cmp.Compare(a.client, b.client), cmp.Compare(a.number, b.number))
	})
	s := from
	last := map[int]int{}
	for _, x := range l {
		if isStamped(x.raw) && x.stamp != s.Stamp()+1 {
			t.Fatalf("%s of client %d has the stamp %d, behind %d", x.raw, x.client, x.stamp, s.Stamp())
		}
		if x.number != last[x.client] {
			t.Fatalf("client %d: its call %d stands where its %d should", x.client, x.number, last[x.client])
		}
		last[x.client]++
		if x.reply == no("nodes") {
			s = s.Skip()
			continue
		}
		next, reply := s.Step(x.client, x.raw)
		if reply != x.reply {
			t.Fatalf("%s of client %d at %d:\n%s\nnot\n%s", x.raw, x.client, x.stamp, x.reply, reply)
		}
		s = next
	}
	return s
}

// P24.6, P24.9, P24.14: any calls of clients that really run beside one another: put one behind the other by their stamps the model tells them the same; and it stands so in the end.
func TestBeside(t *testing.T) {
	nodes := 0
	for seed := range int64(150) {
		d := newDice(900000 + seed)
		c := api.StoreConfig{Clients: 2 + d.Intn(7), Stripes: 1 + d.Intn(8), Nodes: pick(d, 12, 40, 5000, 5000), Keep: 20}
		s := mustMake(t, prim.Real(), c)
		var calls [][]string
		for range c.Clients {
			l := quotedAll("{'op':'create','in':'c'}", "{'op':'create','in':'c-1'}")
			sort := d.Intn(5)
			for range 40 {
				l = append(l, d.raw(sort))
			}
			for i := range 40 {
				l = append(l, quoted("{'op':'close','cursor':"+strconv.Itoa(i+1)+"}"))
			}
			calls = append(calls, l)
		}
		told := beside(s, calls)
		end := wantOneByOne(t, emptyModel(t, c.Keep), told)
		e := s.End()
		if got, want := tellKept(e.Stamp, e.Colls, e.Docs), tellKept(end.Stamp(), end.Colls(), end.Docs()); got != want {
			t.Fatalf("%d: it stands so:\n%s\nnot\n%s", seed, got, want)
		}
		wantSettled(t, s)
		for _, x := range told {
			if x.reply == no("nodes") {
				nodes++
			}
		}
	}
	if nodes < 20 {
		t.Errorf("the heap was full only %d times", nodes)
	}
}

// P24.6: in a Real world no steps are taken, and nothing is noted, whoever is said to take them.
func TestRealTakesNoSteps(t *testing.T) {
	s := mustMake(t, prim.Real(), of(2))
	r, e := sched.Run([]func(*client){func(c *client) {
		for _, raw := range []string{"{'op':'create','in':'c'}", insert("a", 1), get("a"), "{'op':'open','in':'c'}", "{'op':'next','cursor':1}", "{'op':'close','cursor':1}", "x"} {
			s.Call(c, 1, quoted(raw))
		}
	}}, enough())
	if e != isOK || len(r.Events)+len(r.Notes) > 0 || r.Ends[0] != hasEnded || s.End().Stamp != 2 {
		t.Errorf("%d: %+v, %+v", e, r, s.End())
	}
}

// P24.6: one client in a Real world is told what it is told in a script's, and the store stands the same in the end, with the nodes too.
func TestRealAlone(t *testing.T) {
	for seed := range int64(100) {
		d := newDice(1000000 + seed)
		c := api.StoreConfig{Clients: 2, Stripes: 2, Nodes: pick(d, 5, 20, 1000), Keep: 10}
		real, scripted := mustMake(t, prim.Real(), c), mustMake(t, prim.Scripted(), c)
		for _, s := range []*docstore.Store{real, scripted} {
			mustCall(t, s, 0, "{'op':'create','in':'c'}")
		}
		for range 80 {
			n, raw := d.Intn(2), d.raw(d.Intn(5))
			reply, stamp := real.Call(nil, n, raw)
			want, at := scripted.Call(nil, n, raw)
			if reply != want || stamp != at {
				t.Fatalf("%s: %s, %d, not %s, %d", raw, reply, stamp, want, at)
			}
			if got, want := fmt.Sprint(real.End()), fmt.Sprint(scripted.End()); got != want {
				t.Fatalf("%s: %s, not %s", raw, got, want)
			}
		}
		if got, want := real.Settle(), scripted.Settle(); got != want {
			t.Fatalf("%d freed, not %d", got, want)
		}
	}
}

// P24.6: what several add beside one another is all there; of several that insert one document one is told so; readers see one sum, and cursors one state.
func TestRealContest(t *testing.T) {
	const clients, rounds = 8, 60
	c := api.StoreConfig{Clients: clients, Stripes: 4, Nodes: 60000, Keep: 10}
	s := mustMake(t, prim.Real(), c)
	mustCall(t, s, 0, "{'op':'create','in':'c'}", insert("a", 0), insert("b", 0), insert("e", 0), insert("f", 0), insert("g", 0))
	var bodies []func()
	yes := make([]int, clients)
	for n := range clients {
		bodies = append(bodies, func() {
			for i := range rounds {
				move := "{'op':'txn','steps':[" + inc("a", 1) + "," + inc("b", -1) + "]}"
				if n%2 == 1 {
					move = "{'op':'txn','steps':[" + inc("b", -1) + "," + inc("a", 1) + "]}"
				}
				mustReal(t, s, n, move)
				if reply, _ := s.Call(nil, n, quoted(insert("one"+strconv.Itoa(i), n))); strings.HasPrefix(reply, `{"ok":true`) {
					yes[n]++
				} else if reply != no("there") {
					t.Error(reply)
				}
				reply := mustReal(t, s, n, "{'op':'aggregate','in':'c','pipe':[{'$limit':2},{'$group':{'_id':null,'sum':{'$sum':'$n'}}}]}")
				if !strings.HasSuffix(reply, `"sum":0}]}`) {
					t.Error(reply)
				}
				mustReal(t, s, n, "{'op':'open','in':'c','batch':256}")
				first := mustReal(t, s, n, "{'op':'next','cursor':"+strconv.Itoa(i+1)+"}")
				sum := 0
				for _, id := range []string{"a", "b"} {
					_, rest, _ := strings.Cut(first, `{"id":"`+id+`",`)
					_, rest, _ = strings.Cut(rest, `"n":`)
					k, _ := strconv.Atoi(rest[:strings.Index(rest, "}")])
					sum += k
				}
				if sum != 0 {
					t.Error(first)
				}
				mustReal(t, s, n, "{'op':'close','cursor':"+strconv.Itoa(i+1)+"}")
			}
		})
	}
	prim.Beside(bodies)
	all := 0
	for _, k := range yes {
		all += k
	}
	if all != rounds {
		t.Errorf("%d were told that they inserted, not %d", all, rounds)
	}
	reply, _ := s.Call(nil, 0, quoted(get("a")))
	if !strings.HasSuffix(reply, `"n":`+strconv.Itoa(clients*rounds)+"}}") || len(s.End().Docs) != 5+rounds {
		t.Error(reply)
	}
	wantSettled(t, s)
}

func mustReal(t *testing.T, s *docstore.Store, n int, raw string) string {
	reply, _ := s.Call(nil, n, quoted(raw))
	if !strings.HasPrefix(reply, `{"ok":true`) {
		t.Errorf("%s: %s", raw, reply)
	}
	return reply
}
