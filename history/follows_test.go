package history_test

import (
	"math/rand"
	"slices"
	"strings"
	"testing"

	"docket/api"
	"docket/docstore"
	"docket/history"
	"docket/model"
)

// wantSame: Check of other calls is the same; at tells which number a call has there.
func wantSame(t *testing.T, what string, calls, other []api.Call, at func(n int) int) {
	t.Helper()
	a, e := history.Check(10, calls)
	b, f := history.Check(10, other)
	if a.Why != whyNone {
		a.At = at(a.At)
	}
	if a != b || e != f {
		t.Fatalf("%s: %+v, %d, not %+v, %d:\n%s\nor\n%s", what, b, f, a, e, tell(calls), tell(other))
	}
}

// storeRun is what a store tells of a small run: who calls what is thrown, and so is the script, which may end anywhere.
func storeRun(t *testing.T, d dice) []api.Call {
	t.Helper()
	c := api.StoreConfig{Clients: 1 + d.Intn(4), Stripes: 1, Nodes: pick(d, 1, 3, 100, 100), Keep: 10}
	calls := make([][]string, c.Clients)
	calls[0] = []string{quoted(create)}
	for range d.Intn(maxSearch) {
		n := d.Intn(c.Clients)
		calls[n] = append(calls[n], quoted(d.raw()))
	}
	script := make([]int, d.Intn(400))
	for i := range script {
		script[i] = d.Int()
	}
	p, e := docstore.Run(c, calls, script)
	if e != isOK {
		t.Fatal(e)
	}
	return p.Calls
}

// P25.6: what Check finds Ok a search finds: histories as they should be, spoilt ones, and those of the store.
func TestOkIsFound(t *testing.T) {
	seen := 0
	for seed := range int64(2000) {
		d := newDice(40000 + seed)
		calls := d.history(t, 1+d.Intn(maxSearch), 1+d.Intn(4))
		if d.one(2) {
			calls = storeRun(t, d)
		} else if d.one(2) {
			calls = d.spoilt(calls)
		}
		v, e := history.Check(10, calls)
		if e != isOK || !v.Ok {
			continue
		}
		seen++
		l, there, e := history.Search(10, calls)
		if !there || e != isOK {
			t.Fatalf("seed %d: %v, %v, %d:\n%s", seed, l, there, e, tell(calls))
		}
		if k, right, e := history.Replay(10, calls, l); k != len(l) || !right || e != isOK {
			t.Fatalf("seed %d: %v, but %d, %v, %d:\n%s", seed, l, k, right, e, tell(calls))
		}
		if i, k, apart := history.Apart(calls, l); apart {
			t.Fatalf("seed %d: %v, but %d, %d:\n%s", seed, l, i, k, tell(calls))
		}
	}
	if seen < 1200 {
		t.Error(seen)
	}
}

// Every run of the store is Ok (P24.9), as far as its calls went.
func TestStoreIsOk(t *testing.T) {
	for seed := range int64(600) {
		d := newDice(50000 + seed)
		calls := storeRun(t, d)
		pends := slices.ContainsFunc(calls, func(x api.Call) bool { return x.Ended < 0 && x.Point >= 0 })
		told := slices.ContainsFunc(calls, func(x api.Call) bool { return x.Reply == quoted(noNodes) })
		if v, e := history.Check(10, calls); e != isOK || !v.Ok && !(pends && told) { // of one that pends nobody tells whether there was room for it
			t.Fatalf("seed %d: %+v, %d:\n%s", seed, v, e, tell(calls))
		}
	}
}

// inTurn are calls one behind the other, with the model's replies; some have no point.
func (d dice) inTurn(t *testing.T, n int) []api.Call {
	s := emptyModel(t, 10)
	var l []api.Call
	now := d.Intn(3)
	for len(l) < n {
		x := api.Call{Client: d.Intn(3), Raw: quoted(d.raw()), Began: now, Point: now + 1 + d.Intn(2), Ended: now + 3 + d.Intn(3)}
		if len(l) == 0 {
			x.Raw = quoted(create)
		}
		s, x.Reply = s.Step(x.Client, x.Raw)
		if d.one(3) {
			x.Point = -1
		}
		now = x.Ended + 1 + d.Intn(3)
		l = append(l, x)
	}
	return l
}

// other is a reply that is not this one, and not such as says that there is no node: that one takes part in no comparison.
func (d dice) other(reply string) string {
	for {
		if text := quoted(pick(d, "", none, found, created, wrong, reply+" ", strings.TrimSuffix(reply, "}"), "{}")); text != reply {
			return text
		}
	}
}

// P25.7: calls one behind the other, with the model's replies, and with another one.
func TestInTurn(t *testing.T) {
	for seed := range int64(400) {
		d := newDice(60000 + seed)
		calls := d.inTurn(t, 1+d.Intn(maxSearch))
		order := make([]int, len(calls))
		for i := range order {
			order[i] = i
		}
		wantVerdict(t, calls, whyNone, 0)
		wantFound(t, calls, order...)
		k := d.Intn(len(calls))
		calls[k].Reply = d.other(calls[k].Reply)
		wantVerdict(t, calls, whyReply, k)
		wantLost(t, calls)
	}
	calls := newDice(61000).inTurn(t, 2000)
	wantVerdict(t, calls, whyNone, 0)
	calls[1990].Reply += " "
	wantVerdict(t, calls, whyReply, 1990)
}

// shuffled are the same calls in another order, and the number that each has there.
func shuffled(r *rand.Rand, calls []api.Call) ([]api.Call, []int) {
	places := r.Perm(len(calls))
	l := make([]api.Call, len(calls))
	for i, k := range places {
		l[k] = calls[i]
	}
	return l, places
}

// P25.8: the order of the calls in the list has no part.
func TestOrderOfListHasNoPart(t *testing.T) {
	for seed := range int64(800) {
		d := newDice(70000 + seed)
		calls := d.history(t, 1+d.Intn(12), 1+d.Intn(4))
		if d.one(2) {
			calls = d.spoilt(calls)
		}
		l, places := shuffled(d.Rand, calls)
		wantSame(t, "shuffled", calls, l, func(n int) int { return places[n] })
		if len(calls) <= 5 {
			_, a, e := history.Search(10, calls)
			_, b, f := history.Search(10, l)
			if a != b || e != f {
				t.Fatalf("%v, %d, but %v, %d:\n%s", a, e, b, f, tell(calls))
			}
		}
	}
}

// ownless is whether no call asks for what is kept of a client.
func ownless(calls []api.Call) bool {
	return !slices.ContainsFunc(calls, func(x api.Call) bool {
		return strings.Contains(x.Raw, "cursor") || strings.Contains(x.Raw, "open") || strings.Contains(x.Raw, "insert") && !strings.Contains(x.Raw, `"id"`)
	})
}

// P25.8: nor has a client's number, but where something is kept of clients.
func TestClientHasNoPart(t *testing.T) {
	seen := 0
	for seed := range int64(1500) {
		d := newDice(80000 + seed)
		calls := d.history(t, 1+d.Intn(7), 1+d.Intn(4))
		if d.one(2) {
			calls = d.spoilt(calls)
		}
		if _, e := history.Order(calls); e != isOK || !ownless(calls) {
			continue
		}
		seen++
		l := slices.Clone(calls)
		for i := range l {
			l[i].Client = pick(d, 0, -1, 1<<62, -1<<63) + i
		}
		for i := range l {
			if slices.ContainsFunc(l[:i], func(x api.Call) bool { return x.Client == l[i].Client }) {
				l[i].Client = 1000 + i
			}
		}
		wantSame(t, "other clients", calls, l, func(n int) int { return n })
	}
	if seen < 500 {
		t.Error(seen)
	}
}

// P25.9: a call that pends without a point has no part.
func TestPendingHasNoPart(t *testing.T) {
	for seed := range int64(800) {
		d := newDice(90000 + seed)
		calls := d.history(t, 1+d.Intn(12), 1+d.Intn(4))
		if d.one(2) {
			calls = d.spoilt(calls)
		}
		if _, e := history.Order(calls); e != isOK {
			continue
		}
		k := d.Intn(len(calls) + 1)
		one := call(99, 1000000, -1, -1, pick(d, create, insert, get, ""), pick(d, "", none, found, noNodes))
		wantSame(t, "one more", calls, slices.Insert(slices.Clone(calls), k, one), func(n int) int {
			if n >= k {
				return n + 1
			}
			return n
		})
	}
}

// P25.6: a replay of what was found says the same as the model, call by call.
func TestFoundIsTheModels(t *testing.T) {
	for seed := range int64(300) {
		d := newDice(100000 + seed)
		calls := d.spoilt(d.history(t, 1+d.Intn(maxSearch), 1+d.Intn(5)))
		l, there, _ := history.Search(10, calls)
		if !there {
			continue
		}
		var s *model.State = emptyModel(t, 10)
		for _, n := range l {
			var reply string
			if calls[n].Reply == quoted(noNodes) {
				s = s.Skip()
				continue
			}
			if s, reply = s.Step(calls[n].Client, calls[n].Raw); calls[n].Ended >= 0 && reply != calls[n].Reply {
				t.Fatalf("%v, at %d: %s:\n%s", l, n, reply, tell(calls))
			}
		}
	}
}
