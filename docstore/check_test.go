package docstore_test

import (
	"fmt"
	"slices"
	"strings"
	"testing"

	"docket/api"
	"docket/clocks"
	"docket/model"
	"docket/request"
)

// What 24.3 says of a run, asked of what is told of it alone.

// orderOf are the places of the calls that count, in the order of P24.9.
func orderOf(calls []api.Call) []int {
	at := func(i int) int {
		if calls[i].Point >= 0 {
			return calls[i].Point
		}
		return calls[i].Began
	}
	var l []int
	for i, x := range calls {
		if x.Point >= 0 || x.Ended >= 0 {
			l = append(l, i)
		}
	}
	slices.SortFunc(l, func(a, b int) int { return at(a) - at(b) })
	return l
}

func isStamped(raw string) bool {
	r, e, _ := request.Parse(raw)
	return e == isOK && request.Stamped(r.Op)
}

// faultOf goes from a state through the calls that count: it tells the first reply that is another one, and how the store would stand. Of those that were stopped behind their points the ones in full are such as would have been told that there is no node.
func faultOf(s *model.State, calls []api.Call, full map[int]bool) (*model.State, string) {
	for _, i := range orderOf(calls) {
		x := calls[i]
		if x.Reply == no("nodes") || full[i] {
			s = s.Skip()
			continue
		}
		next, reply := s.Step(x.Client, x.Raw)
		if x.Ended >= 0 && reply != x.Reply {
			return nil, fmt.Sprintf("call %d, %s, is told\n%s, not\n%s", i, x.Raw, x.Reply, reply)
		}
		s = next
	}
	return s, ""
}

// pendingBehind are the changes that were stopped behind their points.
func pendingBehind(calls []api.Call) []int {
	var l []int
	for i, x := range calls {
		if x.Ended < 0 && x.Point >= 0 && isStamped(x.Raw) {
			l = append(l, i)
		}
	}
	return l
}

// tellKept is what a store has, but for where its trees are.
func tellKept(stamp int64, colls []api.Coll, docs []api.Item) string {
	l := slices.Clone(colls)
	for i := range l {
		l[i].Top = api.Ref{}
	}
	return fmt.Sprintf("%d %+v %+v", stamp, l, docs)
}

// wantInOrder: P24.9, from a state on, to how the store stands at the end.
func wantInOrder(t *testing.T, what string, from *model.State, p api.Played) {
	t.Helper()
	for i, x := range p.Calls {
		if x.Point >= 0 && (x.Point <= x.Began || x.Ended >= 0 && x.Point >= x.Ended) || x.Ended >= 0 && x.Ended <= x.Began {
			t.Fatalf("%s: call %d: %+v", what, i, x)
		}
	}
	pending := pendingBehind(p.Calls)
	fault := ""
	for mask := range 1 << len(pending) {
		full := map[int]bool{}
		for k, i := range pending {
			if mask>>k&1 == 1 {
				full[i] = true
			}
		}
		var s *model.State
		if s, fault = faultOf(from, p.Calls, full); fault != "" {
			continue
		}
		got, want := tellKept(p.End.Stamp, p.End.Colls, p.End.Docs), tellKept(s.Stamp(), s.Colls(), s.Docs())
		if got == want {
			return
		}
		fault = "it stands so:\n" + got + "\nnot\n" + want
	}
	t.Fatalf("%s:\n%s\n%s", what, tellCalls(p.Calls), fault)
}

// wantReads: P24.11.
func wantReads(t *testing.T, what string, c api.StoreConfig, p api.Played) {
	t.Helper()
	for i, x := range p.Calls {
		r, e, _ := request.Parse(x.Raw)
		if e != isOK || isStamped(x.Raw) || slices.Contains([]int{api.OpOpen, api.OpNext, api.OpClose}, r.Op) {
			continue
		}
		l, _ := eventsOf(p, x)
		pins := 0
		for _, y := range l {
			s := y.Step
			switch {
			case s == api.Step{Kind: kindStore, Obj: objKeeper, Num: x.Client + 1}:
				pins++
			case s.Kind == kindGet && s.Obj == objHeap && s.Num > 0, s == api.Step{Kind: kindLoad, Obj: objKeeper}, s.Kind == kindCall, s.Kind == kindReturn:
			default:
				t.Fatalf("%s: call %d, %s: %s", what, i, x.Raw, tellSteps(l))
			}
		}
		if x.Ended >= 0 && pins != 2 {
			t.Fatalf("%s: call %d, %s: %s", what, i, x.Raw, tellSteps(l))
		}
		if r.Op == api.OpGet && len(l) > 25 {
			t.Fatalf("%s: %d steps of a get", what, len(l))
		}
	}
}

// wantBounds: P24.13.
func wantBounds(t *testing.T, what string, c api.StoreConfig, p api.Played) {
	t.Helper()
	for i, x := range p.Calls {
		r, _, _ := request.Parse(x.Raw)
		keys := len(model.Keys(model.Named(r, x.Client, 0)))
		l, _ := eventsOf(p, x)
		if most := 60 + 120*keys + c.Clients*(1+maxCursors) + 6*p.End.Made; len(l) > most {
			t.Fatalf("%s: call %d, %s: %d steps, above %d", what, i, x.Raw, len(l), most)
		}
	}
}

// openCursors is how many are open when all calls have ended.
func openCursors(calls []api.Call) int {
	n := 0
	for _, x := range calls {
		r, _, _ := request.Parse(x.Raw)
		switch {
		case !strings.HasPrefix(x.Reply, `{"ok":true`):
		case r.Op == api.OpOpen:
			n++
		case r.Op == api.OpClose:
			n--
		}
	}
	return n
}

// wantNodes: P24.16, but for Settle, which a Run does not know.
func wantNodes(t *testing.T, what string, p api.Played) {
	t.Helper()
	changes, ended := false, true
	for _, x := range p.Calls {
		if x.Ended < 0 {
			changes, ended = changes || isStamped(x.Raw), false
		}
	}
	live := p.End.Made - p.End.Pooled
	if !changes && live > p.End.Reached+p.End.Retired {
		t.Fatalf("%s: %d live nodes: %+v", what, live, p.End)
	}
	if !ended {
		return
	}
	set := 0
	for _, pin := range p.End.Pins {
		if pin != 0 {
			set++
		}
	}
	if p.End.Entries != 0 || set != openCursors(p.Calls) {
		t.Fatalf("%s: %d cursors are open: %+v", what, openCursors(p.Calls), p.End)
	}
}

// wantAll: all that 24.3 says.
func wantAll(t *testing.T, what string, c api.StoreConfig, from *model.State, p api.Played) {
	t.Helper()
	wantInOrder(t, what, from, p)
	wantReads(t, what, c, p)
	wantBounds(t, what, c, p)
	wantNodes(t, what, p)
	if p.Run.Stuck {
		t.Fatalf("%s: nobody is ready, waiting with %v", what, p.Run.Waits)
	}
	if slices.Contains(p.Run.Ends, hasPanicked) {
		t.Fatalf("%s: a client has panicked: %v", what, p.Run.Ends)
	}
	if races, e := clocks.Races(p.Run.Events, c.Clients); e != isOK || len(races) > 0 {
		t.Fatalf("%s: races %v, %d", what, races, e)
	}
}

// emptyModel is the state of which every run begins.
func emptyModel(t *testing.T, keep int) *model.State {
	t.Helper()
	s, e := model.New(keep)
	if e != isOK {
		t.Fatal(e)
	}
	return s
}
