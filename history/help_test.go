package history_test

import (
	"fmt"
	"math/rand"
	"slices"
	"strings"
	"testing"

	"docket/api"
	"docket/history"
	"docket/model"
)

// The numbers as the document has them, so that a test does not follow a number that another one stands for.
const (
	maxHistory = 65536
	maxSearch  = 7
	maxKeep    = 4096

	isOK      = 0
	isArg     = 2
	isHistory = 250
	isSearch  = 251

	whyNone  = 0
	whyReply = 1
	whyApart = 2
)

func TestNumbers(t *testing.T) {
	for _, c := range [][2]int{
		{maxHistory, api.MaxHistory}, {maxSearch, api.MaxSearch}, {maxKeep, api.MaxKeep},
		{isOK, int(api.OK)}, {isArg, int(api.ErrArg)}, {isHistory, int(api.ErrHistory)}, {isSearch, int(api.ErrSearch)},
		{whyNone, api.WhyNone}, {whyReply, api.WhyReply}, {whyApart, api.WhyApart},
	} {
		if c[0] != c[1] {
			t.Error(c)
		}
	}
}

// quoted is a text in which a ' stands for each ".
func quoted(text string) string { return strings.ReplaceAll(text, "'", `"`) }

// What calls ask and are told here; each is such that a ' stands for each ".
const (
	create  = "{'op':'create','in':'c'}"
	created = "{'ok':true,'stamp':1}"
	insert  = "{'op':'insert','in':'c','id':'a','value':{}}"
	get     = "{'op':'get','in':'c','id':'a'}"
	found   = "{'ok':true,'version':2,'value':{}}"
	none    = "{'ok':false,'error':'none'}"
	noNodes = "{'ok':false,'error':'nodes'}"
	wrong   = "{'ok':false,'error':'short'}" // to the empty text
)

// inserted is what an insert of a document is told, at that stamp.
func inserted(id string, stamp int) string {
	return fmt.Sprintf("{'ok':true,'id':'%s','version':%d}", id, stamp)
}

// call is one by a client, with its three moments.
func call(client, began, point, ended int, raw, reply string) api.Call {
	return api.Call{Client: client, Raw: quoted(raw), Reply: quoted(reply), Stamp: -1, Began: began, Point: point, Ended: ended}
}

// bare are calls without a word, each of a client of its own: of each the three moments.
func bare(moments ...[3]int) []api.Call {
	var l []api.Call
	for n, m := range moments {
		l = append(l, call(n, m[0], m[1], m[2], "", wrong))
	}
	return l
}

// tell is all that counts of calls, for whoever looks at a fault.
func tell(calls []api.Call) string {
	var l []string
	for i, x := range calls {
		l = append(l, fmt.Sprintf("%d: client %d, %d %d %d, %s: %s", i, x.Client, x.Began, x.Point, x.Ended, x.Raw, x.Reply))
	}
	return strings.Join(l, "\n")
}

func wantOrder(t *testing.T, calls []api.Call, want ...int) {
	t.Helper()
	if got, e := history.Order(calls); e != isOK || !slices.Equal(got, want) {
		t.Errorf("%v, %d, not %v:\n%s", got, e, want, tell(calls))
	}
}

// wantNoHistory: all that asks whether it is one says no.
func wantNoHistory(t *testing.T, calls []api.Call) {
	t.Helper()
	if got, e := history.Order(calls); got != nil || e != isHistory {
		t.Errorf("Order: %v, %d:\n%s", got, e, tell(calls))
	}
	if v, e := history.Check(0, calls); v != (api.Verdict{}) || e != isHistory {
		t.Errorf("Check: %+v, %d:\n%s", v, e, tell(calls))
	}
	if got, there, e := history.Search(0, calls); got != nil || there || e != isHistory {
		t.Errorf("Search: %v, %v, %d:\n%s", got, there, e, tell(calls))
	}
}

func wantReplay(t *testing.T, keep int, calls []api.Call, order []int, at int, right bool) {
	t.Helper()
	if k, ok, e := history.Replay(keep, calls, order); k != at || ok != right || e != isOK {
		t.Errorf("%v: %d, %v, %d, not %d, %v:\n%s", order, k, ok, e, at, right, tell(calls))
	}
}

func wantApart(t *testing.T, calls []api.Call, order []int, i, k int, apart bool) {
	t.Helper()
	if a, b, ok := history.Apart(calls, order); a != i || b != k || ok != apart {
		t.Errorf("%v: %d, %d, %v, not %d, %d, %v:\n%s", order, a, b, ok, i, k, apart, tell(calls))
	}
}

func wantVerdict(t *testing.T, calls []api.Call, why, at int) {
	t.Helper()
	want := api.Verdict{Ok: why == whyNone, Why: why, At: at}
	if v, e := history.Check(10, calls); v != want || e != isOK {
		t.Errorf("%+v, %d, not %+v:\n%s", v, e, want, tell(calls))
	}
}

// wantFound: a search finds just that list.
func wantFound(t *testing.T, calls []api.Call, want ...int) {
	t.Helper()
	if got, there, e := history.Search(10, calls); !slices.Equal(got, want) || !there || e != isOK {
		t.Errorf("%v, %v, %d, not %v:\n%s", got, there, e, want, tell(calls))
	}
}

func wantLost(t *testing.T, calls []api.Call) {
	t.Helper()
	if got, there, e := history.Search(10, calls); got != nil || there || e != isOK {
		t.Errorf("%v, %v, %d:\n%s", got, there, e, tell(calls))
	}
}

func emptyModel(t *testing.T, keep int) *model.State {
	t.Helper()
	s, e := model.New(keep)
	if e != isOK {
		t.Fatal(e)
	}
	return s
}

// dice makes what is the same in each run, of few parts, so that much of it meets.
type dice struct{ *rand.Rand }

func newDice(seed int64) dice { return dice{rand.New(rand.NewSource(seed))} }

func pick[T any](d dice, from ...T) T { return from[d.Intn(len(from))] }

func (d dice) one(in int) bool { return d.Intn(in) == 0 }

// raw is a request of one collection and of two documents.
func (d dice) raw() string {
	of := "'in':'c','id':'" + pick(d, "a", "a", "b") + "'"
	switch d.Intn(12) {
	case 0, 1:
		return "{'op':'insert'," + of + ",'value':{'n':" + pick(d, "1", "2") + "}}"
	case 2, 3, 4:
		return "{'op':'get'," + of + "}"
	case 5:
		return "{'op':'update'," + of + ",'ops':{'$inc':{'n':1}},'upsert':true}"
	case 6:
		return "{'op':'delete'," + of + "}"
	case 7:
		return pick(d, "{'op':'count','in':'c'}", "{'op':'changes','after':1}", "{'op':'scan','in':'c'}")
	case 8:
		return pick(d, "{'op':'open','in':'c'}", "{'op':'next','cursor':1}", "{'op':'insert','in':'c','value':{}}")
	case 9:
		return pick(d, "{'op':'txn','steps':[{'op':'delete',"+of+"}]}", create, "")
	}
	return "{'op':'replace'," + of + ",'value':{'n':" + pick(d, "1", "2") + "}}"
}

// plan is the calls of a run as it may have been, of which only the order of the moments is left to be told.
type plan struct {
	dice
	calls []api.Call
	state *model.State
	open  []int // calls that are under way
	now   int
}

// tick is the next moment: now and then some go by in between.
func (p *plan) tick() int {
	p.now += 1 + p.Intn(3)
	return p.now - 1
}

// begin is a call by a client that has none under way.
func (p *plan) begin(client int, raw string) {
	p.open = append(p.open, len(p.calls))
	p.calls = append(p.calls, api.Call{Client: client, Raw: quoted(raw), Stamp: -1, Began: p.tick(), Point: -1, Ended: -1})
}

// take gives a call its point, and keeps what it is told aside, in Reply.
func (p *plan) take(n int) {
	x := &p.calls[n]
	x.Point = p.tick()
	if p.one(12) {
		p.state, x.Reply = p.state.Skip(), quoted(noNodes)
		return
	}
	p.state, x.Reply = p.state.Step(x.Client, x.Raw)
}

// ahead goes on with one of the calls that are under way.
func (p *plan) ahead() {
	k := p.Intn(len(p.open))
	n := p.open[k]
	if p.calls[n].Point < 0 {
		p.take(n)
		return
	}
	p.calls[n].Ended = p.tick()
	p.open = slices.Delete(p.open, k, k+1)
}

// busy is whether a client has a call under way.
func (p *plan) busy(client int) bool {
	return slices.ContainsFunc(p.open, func(n int) bool { return p.calls[n].Client == client })
}

// history is one of so many calls that is as it should be: now and then with calls that pend at the end.
func (d dice) history(t *testing.T, n, clients int) []api.Call {
	p := &plan{dice: d, state: emptyModel(t, 10)}
	p.begin(0, create)
	for len(p.calls) < n || len(p.open) > 0 && !p.one(12) {
		client := p.Intn(clients)
		if len(p.calls) < n && !p.busy(client) && p.one(3) {
			p.begin(client, p.raw())
		} else if len(p.open) > 0 {
			p.ahead()
		}
	}
	for _, k := range p.open {
		if p.calls[k].Reply != quoted(noNodes) { // else the model could not tell that it was a stamp alone
			p.calls[k].Reply = ""
		}
	}
	p.Shuffle(n, func(a, b int) { p.calls[a], p.calls[b] = p.calls[b], p.calls[a] })
	return p.calls
}

// spoilt is a history that may be none any more, or one that nobody had.
func (d dice) spoilt(calls []api.Call) []api.Call {
	l := slices.Clone(calls)
	x, y := &l[d.Intn(len(l))], &l[d.Intn(len(l))]
	switch d.Intn(9) {
	case 0:
		x.Point = -1
	case 1:
		x.Reply = y.Reply
	case 2:
		x.Raw, y.Raw = y.Raw, x.Raw
	case 3:
		x.Point, y.Point = y.Point, x.Point
	case 4:
		x.Client = y.Client
	case 5:
		x.Point = d.Intn(40) - 2
	case 6:
		x.Ended = d.Intn(40) - 2
	case 7:
		x.Began = d.Intn(40) - 2
	case 8:
		x.Reply, y.Reply = y.Reply, x.Reply
	}
	return l
}
