package docstore_test

import (
	"fmt"
	"math/rand"
	"slices"
	"strconv"
	"strings"
	"testing"

	"docket/api"
	"docket/docstore"
	"docket/ident"
	"docket/prim"
	"docket/sched"
)

// The numbers as the document has them, so that a test does not follow a number that another one stands for.
const (
	maxClients = 16
	maxStripes = 64
	maxNodes   = 1048576
	maxKeep    = 4096
	maxCalls   = 4096
	maxCursors = 4
	maxBatch   = 256
	maxScript  = 262144
	maxStamp   = 1 << 62
	maxLeaf    = 4

	isOK   = 0
	isLong = 1
	isArg  = 2

	noteCall   = 1
	noteReturn = 2

	objStripe = 1
	objBucket = 2
	objLatch  = 3
	objUsers  = 4
	objCommit = 5
	objHeap   = 6
	objKeeper = 7
	objCall   = 8

	kindLock    = 1
	kindUnlock  = 2
	kindRLock   = 3
	kindRUnlock = 4
	kindLoad    = 5
	kindStore   = 6
	kindAdd     = 7
	kindGet     = 8
	kindSet     = 9
	kindCall    = 10
	kindReturn  = 11

	wasStopped  = 0
	hasEnded    = 1
	hasPanicked = 2
)

func TestNumbers(t *testing.T) {
	for _, c := range [][2]int{
		{maxClients, api.MaxClients}, {maxStripes, api.MaxStripeNum}, {maxNodes, api.MaxNodes}, {maxKeep, api.MaxKeep}, {maxCalls, api.MaxCalls}, {maxCursors, api.MaxCursors},
		{maxBatch, api.MaxBatch}, {maxScript, api.MaxScript}, {maxStamp, api.MaxStamp}, {maxLeaf, api.MaxLeaf},
		{isOK, int(api.OK)}, {isLong, int(api.ErrLong)}, {isArg, int(api.ErrArg)}, {240, int(api.ErrNodes)}, {noteCall, api.NoteCall}, {noteReturn, api.NoteReturn},
		{objStripe, api.ObjStripe}, {objCommit, api.ObjCommit}, {objHeap, api.ObjHeap}, {objKeeper, api.ObjKeeper}, {objCall, api.ObjCall},
		{kindLock, api.StepLock}, {kindUnlock, api.StepUnlock}, {kindRLock, api.StepRLock}, {kindRUnlock, api.StepRUnlock}, {kindLoad, api.StepLoad}, {kindStore, api.StepStore},
		{kindAdd, api.StepAdd}, {kindGet, api.StepGet}, {kindSet, api.StepSet}, {kindCall, api.StepCall}, {kindReturn, api.StepReturn},
	} {
		if c[0] != c[1] {
			t.Error(c)
		}
	}
}

// quoted is a text in which a ' stands for each ".
func quoted(text string) string { return strings.ReplaceAll(text, "'", `"`) }

func quotedAll(l ...string) []string {
	var all []string
	for _, text := range l {
		all = append(all, quoted(text))
	}
	return all
}

// of is how a store with so many clients is made, where nothing else counts.
func of(clients int) api.StoreConfig {
	return api.StoreConfig{Clients: clients, Stripes: 2, Nodes: 1000, Keep: 10}
}

func mustMake(t *testing.T, w *prim.World, c api.StoreConfig) *docstore.Store {
	t.Helper()
	s, e := docstore.New(w, c)
	if s == nil || e != isOK {
		t.Fatalf("%+v: %v, %d", c, s, e)
	}
	return s
}

// wantCall makes a call by nobody, in which a ' stands for each ", and holds the reply and the stamp against what is wanted.
func wantCall(t *testing.T, s *docstore.Store, n int, raw, want string, stamp int64) {
	t.Helper()
	reply, at := s.Call(nil, n, quoted(raw))
	if reply != quoted(want) || at != stamp {
		t.Errorf("%s:\n%s, %d, not\n%s, %d", raw, reply, at, quoted(want), stamp)
	}
}

// mustCall makes calls by nobody, none of which is refused.
func mustCall(t *testing.T, s *docstore.Store, n int, raws ...string) {
	t.Helper()
	for _, raw := range raws {
		if reply, _ := s.Call(nil, n, quoted(raw)); !strings.HasPrefix(reply, `{"ok":true`) {
			t.Fatalf("%s: %s", raw, reply)
		}
	}
}

// stocked is a store of a script's world, with a collection c that has documents of these ids, each with an n that is its place in the list.
func stocked(t *testing.T, c api.StoreConfig, ids ...string) *docstore.Store {
	t.Helper()
	s := mustMake(t, prim.Scripted(), c)
	mustCall(t, s, 0, "{'op':'create','in':'c'}")
	for i, id := range ids {
		mustCall(t, s, 0, insert(id, i))
	}
	return s
}

func insert(id string, n int) string {
	return fmt.Sprintf("{'op':'insert','in':'c','id':'%s','value':{'n':%d}}", id, n)
}

func inc(id string, by int) string {
	return fmt.Sprintf("{'op':'update','in':'c','id':'%s','ops':{'$inc':{'n':%d}},'upsert':true}", id, by)
}

func get(id string) string { return "{'op':'get','in':'c','id':'" + id + "'}" }

// mustPlay is a run of a store that is there.
func mustPlay(t *testing.T, s *docstore.Store, calls [][]string, script []int) api.Played {
	t.Helper()
	p, e := s.Play(calls, script)
	if e != isOK {
		t.Fatalf("%v: %d", calls, e)
	}
	return p
}

func mustRun(t *testing.T, c api.StoreConfig, calls [][]string, script []int) api.Played {
	t.Helper()
	p, e := docstore.Run(c, calls, script)
	if e != isOK {
		t.Fatalf("%+v, %v: %d", c, calls, e)
	}
	return p
}

// enough is a script that ends all calls of a small run.
func enough() []int { return make([]int, 20000) }

// tellStep is a step in few letters, as L5/0.
func tellStep(s api.Step) string {
	kinds := []string{"?", "L", "U", "RL", "RU", "ld", "st", "add", "get", "set", "call", "ret"}
	return fmt.Sprint(kinds[s.Kind], s.Obj, "/", s.Num)
}

func tellSteps(events []api.Event) string {
	var l []string
	for _, x := range events {
		l = append(l, tellStep(x.Step))
	}
	return strings.Join(l, " ")
}

// tellRun is a run with the clients' numbers.
func tellRun(events []api.Event) string {
	var l []string
	for _, x := range events {
		l = append(l, strconv.Itoa(x.Client)+":"+tellStep(x.Step))
	}
	return strings.Join(l, " ")
}

// eventsOf are those of a call that has begun, in their order, with their numbers.
func eventsOf(p api.Played, x api.Call) ([]api.Event, []int) {
	end := x.Ended
	if end < 0 {
		end = len(p.Run.Events) - 1
	}
	var l []api.Event
	var at []int
	for i := x.Began; i <= end; i++ {
		if p.Run.Events[i].Client == x.Client {
			l, at = append(l, p.Run.Events[i]), append(at, i)
		}
	}
	return l, at
}

// dice makes what is the same in each run, of few parts, so that much of it meets.
type dice struct{ *rand.Rand }

func newDice(seed int64) dice { return dice{rand.New(rand.NewSource(seed))} }

func pick[T any](d dice, from ...T) T { return from[d.Intn(len(from))] }

func (d dice) one(in int) bool { return d.Intn(in) == 0 }

// coll is such that a name is above another whose keys are above its own.
func (d dice) coll() string { return pick(d, "c", "c", "c", "c", "c", "c-1", "c-1", "d") }

func (d dice) id() string {
	return pick(d, "a", "b", "e", "f", "g", "h", "/", "~", "a", "b", "i"+strconv.Itoa(d.Intn(20)))
}

func (d dice) small() string {
	return pick(d, "null", "1", "2", "3", "'x'", "[1,2]", "{}")
}

func (d dice) document() string {
	return pick(d, "{}", "{'n':1}", "{'n':"+d.small()+"}", "{'n':"+d.small()+",'t':"+d.small()+"}", "{'n':"+strconv.Itoa(d.Intn(9))+"}", "{'t':"+strconv.Itoa(d.Intn(9))+"}")
}

func (d dice) query() string {
	return pick(d, "{}", "{'n':1}", "{'n':"+strconv.Itoa(d.Intn(9))+"}", "{'n':{'$gt':1}}", "{'n':{'$in':[1,2,3]}}", "{'t':"+d.small()+"}", "{'n':{'$ne':1}}")
}

// maybe is a member of a request, or none.
func (d dice) maybe(name, text string) string {
	if d.one(2) {
		return ""
	}
	return ",'" + name + "':" + text
}

func (d dice) version() string {
	if d.one(5) {
		return ",'version':" + strconv.Itoa(1+d.Intn(12))
	}
	return ""
}

// step is a change of one document, such as may be one of a txn.
func (d dice) step() string {
	of := "'in':'" + d.coll() + "','id':'" + d.id() + "'"
	ops := pick(d, "{'$inc':{'n':1}}", "{'$set':{'n':1}}", "{'$set':{'t':"+d.small()+"}}", "{'$unset':{'t':true}}")
	switch d.Intn(6) {
	case 0:
		return "{'op':'replace'," + of + ",'value':" + d.document() + d.version() + "}"
	case 1, 2:
		return "{'op':'update'," + of + ",'ops':" + ops + d.maybe("upsert", "true") + d.version() + "}"
	case 3:
		return "{'op':'delete'," + of + d.version() + "}"
	}
	return "{'op':'insert'," + of + ",'value':" + d.document() + "}"
}

func (d dice) txn() string {
	var steps []string
	for range 1 + d.Intn(6) {
		steps = append(steps, d.step())
	}
	return "{'op':'txn','steps':[" + strings.Join(steps, ",") + "]" + d.maybe("mode", pick(d, "'all'", "'stop'", "'each'", "'each'")) + "}"
}

func (d dice) change() string {
	in := "'in':'" + d.coll() + "'"
	switch d.Intn(16) {
	case 0:
		return "{'op':'create'," + in + d.maybe("most", strconv.Itoa(d.Intn(6))) + d.maybe("schema", "{'properties':{'n':{'type':['int','null']}}}") + "}"
	case 1:
		return "{'op':'drop'," + in + "}"
	case 2:
		return "{'op':'index'," + in + ",'name':'" + pick(d, "x", "y") + "','path':'" + pick(d, "n", "n", "t") + "'" + d.maybe("unique", "true") + "}"
	case 3:
		return "{'op':'unindex'," + in + ",'name':'" + pick(d, "x", "y") + "'}"
	case 4, 5:
		return "{'op':'insert'," + in + ",'value':" + d.document() + "}"
	case 6:
		return "{'op':'modify'," + in + ",'id':'" + d.id() + "','ops':{'$inc':{'n':1}}" + d.maybe("upsert", "true") + d.maybe("new", "true") + "}"
	case 7, 8, 9:
		return d.txn()
	}
	return d.step()
}

func (d dice) read() string {
	in := "'in':'" + d.coll() + "'"
	filter := d.maybe("filter", d.query())
	switch d.Intn(9) {
	case 0:
		return "{'op':'get'," + in + ",'id':'" + d.id() + "'}"
	case 1:
		return "{'op':'count'," + in + filter + "}"
	case 2:
		return "{'op':'distinct'," + in + ",'path':'n'" + filter + "}"
	case 3:
		return "{'op':'aggregate'," + in + ",'pipe':" + pick(d, "[]", "[{'$match':"+d.query()+"},{'$count':'c'}]", "[{'$sort':{'n':-1}},{'$limit':2}]") + "}"
	case 4:
		return "{'op':'explain'," + in + filter + "}"
	case 5:
		return "{'op':'changes','after':" + strconv.Itoa(d.Intn(12)) + d.maybe("limit", strconv.Itoa(d.Intn(4))) + d.maybe("in", "'"+d.coll()+"'") + "}"
	case 6:
		return "{'op':'stat'}"
	}
	return "{'op':'scan'," + in + filter + d.maybe("sort", "{'n':1}") + d.maybe("limit", strconv.Itoa(d.Intn(4))) + "}"
}

// page is a request about cursors.
func (d dice) page() string {
	number := strconv.Itoa(1 + d.Intn(5))
	switch d.Intn(7) {
	case 0, 1, 2:
		return "{'op':'open','in':'" + d.coll() + "'" + d.maybe("filter", d.query()) + d.maybe("fields", "{'n':1}") + d.maybe("batch", strconv.Itoa(d.Intn(4))) + "}"
	case 3:
		return "{'op':'close','cursor':" + number + "}"
	}
	return "{'op':'next','cursor':" + number + "}"
}

// wrong is a text that is no request.
func (d dice) wrong() string {
	return pick(d, "", "{", "{'op':'go'}", "{'op':'get','in':'c'}", "{'op':'txn','steps':[{'op':'delete','in':'c','id':'a'},{'op':'get','in':'c','id':'a'}]}")
}

// raw is any request, now and then one that is none; the one who asks may like one sort more than the others.
func (d dice) raw(sort int) string {
	switch d.Intn(32) {
	case 0:
		return quoted(d.wrong())
	case 1, 2, 3, 4, 5:
		return quoted(d.read())
	case 6, 7, 8, 9:
		return quoted(d.page())
	case 10, 11, 12, 13, 14, 15, 16:
		return quoted(d.change())
	}
	return quoted([]func() string{d.read, d.page, d.change, d.change, d.step}[sort]())
}

// scene is all that a run is given.
type scene struct {
	c      api.StoreConfig
	calls  [][]string
	script []int
}

// scene is of few clients; now and then with few nodes, or a script that does not suffice.
func (d dice) scene() scene {
	x := scene{c: api.StoreConfig{Clients: 1 + d.Intn(4), Stripes: 1 + d.Intn(3), Nodes: pick(d, 1, 4, 9, 20, 60, 1000, 1000, 1000), Keep: pick(d, 1, 3, 10, 100)}}
	for n := range x.c.Clients {
		var l []string
		if n == 0 {
			l = quotedAll("{'op':'create','in':'c'}", "{'op':'create','in':'c-1'}")
		}
		sort := d.Intn(5)
		for range d.Intn(14) {
			l = append(l, d.raw(sort))
		}
		x.calls = append(x.calls, l)
	}
	x.script = d.script(d.Intn(pick(d, 150, 600, 2500)))
	if !d.one(3) {
		x.script = append(x.script, enough()...)
	}
	return x
}

// script is of that many entries, each followed by some of its like.
func (d dice) script(n int) []int {
	stay := pick(d, 1, 2, 8, 40)
	var l []int
	for len(l) < n {
		l = append(l, slices.Repeat([]int{d.Int() - d.Int()}, 1+d.Intn(stay))...)
	}
	return l
}

func (x scene) String() string {
	return fmt.Sprintf("%+v\n%s", x.c, strings.ReplaceAll(fmt.Sprintf("%q", x.calls), `\"`, "'"))
}

// client is whoever takes steps: the word is short, as the tests have many.
type client = sched.Client

// runOne is the steps of one client that does something alone.
func runOne(t *testing.T, s *docstore.Store, do func(c *client)) string {
	t.Helper()
	r, e := sched.Run([]func(*client){do}, enough())
	if e != isOK || r.Ends[0] != hasEnded {
		t.Fatalf("%d: %+v", e, r)
	}
	return tellSteps(r.Events)
}

// madeId is the id that is made for a client for which so many were made.
func madeId(n, made int) string {
	id, _ := ident.NewMaker(uint64(n), uint64(made)).Next()
	return id
}
