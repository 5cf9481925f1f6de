package docstore_test

import (
	"fmt"
	"iter"
	"slices"
	"strings"
	"testing"

	"docket/api"
	"docket/catalog"
	"docket/cursor"
	"docket/docstore"
	"docket/filter"
	"docket/ident"
	"docket/model"
	"docket/request"
	"docket/shape"
	"docket/trie"
	"docket/watch"
)

// The words of chapter 24, and of those of which its steps are (9, 10, 12, 14, 15), written plainly: a client is a sequence of the steps that it waits with, and does with each what the words say when it is picked.

type wait struct {
	step  api.Step
	ready func() bool
}

type plainEntry struct {
	key   string
	num   int
	held  bool
	users int
}

type plainStripe struct {
	held    bool
	readers int
	bucket  []*plainEntry
	made    int
}

type plainNode struct {
	gen  int
	live bool
	node api.Node
}

type plainRetired struct {
	ref   api.Ref
	stamp int64
}

type plainRoot struct {
	stamp int64
	cat   *catalog.Catalog
	log   *watch.Log
}

func (r plainRoot) top(in string) api.Ref {
	k, _ := r.cat.Coll(in)
	return k.Top
}

// words are a store, and a run of it, by the words.
type words struct {
	c       api.StoreConfig
	stripes []plainStripe
	commit  bool
	nodes   []plainNode
	pool    []int
	root    plainRoot
	pins    []int64
	list    []plainRetired
	told    api.Played
	lost    int // Gets that failed
}

func newWords(c api.StoreConfig) *words {
	log, _ := watch.New(c.Keep)
	return &words{
		c:       c,
		stripes: make([]plainStripe, c.Stripes),
		root:    plainRoot{0, catalog.New(), log},
		pins:    make([]int64, c.Clients*(1+maxCursors)),
	}
}

// hand is a client.
type hand struct {
	*words
	n       int
	yield   func(wait) bool
	made    int64
	opened  int64
	numbers [maxCursors]int64
	cursors [maxCursors]*cursor.Cursor
	roots   [maxCursors]plainRoot
	names   [maxCursors]string
	call    int // its place in the calls
}

type halted struct{}

func (h *hand) wait(kind, obj, num int, ready func() bool) {
	if !h.yield(wait{api.Step{Kind: kind, Obj: obj, Num: num}, ready}) {
		panic(halted{})
	}
}

func (h *hand) step(kind, obj, num int) { h.wait(kind, obj, num, nil) }

func (h *hand) note(kind int, text string) {
	h.told.Run.Notes = append(h.told.Run.Notes, api.Note{At: len(h.told.Run.Events), Client: h.n, Kind: kind, Text: text})
}

// point says that the event was it.
func (h *hand) point(event int, stamp int64) int64 {
	x := &h.told.Calls[h.call]
	x.Point, x.Stamp = event, stamp
	return stamp
}

// last is the number of the last event.
func (h *hand) last() int { return len(h.told.Run.Events) - 1 }

func (h *hand) Get(r api.Ref) (api.Node, bool) {
	if r.Num < 1 || r.Num > len(h.nodes) {
		h.lost++
		return api.Node{}, false
	}
	if h.yield != nil {
		h.step(kindGet, objHeap, r.Num)
	}
	x := h.nodes[r.Num-1]
	if !x.live || x.gen != r.Gen {
		h.lost++
		return api.Node{}, false
	}
	return x.node, true
}

func (h *hand) Alloc(n api.Node) (api.Ref, api.Errno) {
	h.step(kindGet, objHeap, 0)
	if k := len(h.pool); k > 0 {
		num := h.pool[k-1]
		h.step(kindSet, objHeap, 0)
		h.pool = h.pool[:k-1]
		h.step(kindSet, objHeap, num)
		x := &h.nodes[num-1]
		x.live, x.node = true, n
		return api.Ref{Num: num, Gen: x.gen}, isOK
	}
	if len(h.nodes) == h.c.Nodes {
		return api.Ref{}, api.ErrFull
	}
	h.step(kindSet, objHeap, len(h.nodes)+1)
	h.nodes = append(h.nodes, plainNode{1, true, n})
	return api.Ref{Num: len(h.nodes), Gen: 1}, isOK
}

func (h *hand) free(r api.Ref) {
	h.step(kindGet, objHeap, r.Num)
	h.step(kindSet, objHeap, r.Num)
	x := &h.nodes[r.Num-1]
	x.live, x.node, x.gen = false, api.Node{}, x.gen+1
	h.step(kindGet, objHeap, 0)
	h.step(kindSet, objHeap, 0)
	h.pool = append(slices.Clone(h.pool), r.Num)
}

func (h *hand) find(s int, key string) *plainEntry {
	for _, e := range h.stripes[s].bucket {
		if e.key == key {
			return e
		}
	}
	return nil
}

func (h *hand) lockStripe(s int) {
	x := &h.stripes[s]
	h.wait(kindLock, objStripe, s, func() bool { return !x.held && x.readers == 0 })
	x.held = true
}

func (h *hand) unlockStripe(s int) {
	h.step(kindUnlock, objStripe, s)
	h.stripes[s].held = false
}

func (h *hand) add(e *plainEntry, by int) {
	h.step(kindAdd, objUsers, e.num)
	e.users += by
}

func (h *hand) take(key string) *plainEntry {
	s := ident.Stripe(key, h.c.Stripes)
	x := &h.stripes[s]
	h.wait(kindRLock, objStripe, s, func() bool { return !x.held })
	x.readers++
	h.step(kindGet, objBucket, s)
	e := h.find(s, key)
	if e != nil {
		h.add(e, 1)
	}
	h.step(kindRUnlock, objStripe, s)
	x.readers--
	if e != nil {
		return e
	}
	h.lockStripe(s)
	h.step(kindGet, objBucket, s)
	if e = h.find(s, key); e != nil {
		h.add(e, 1)
	} else {
		e = &plainEntry{key: key, num: s + x.made*h.c.Stripes, users: 1}
		h.step(kindSet, objBucket, s)
		x.bucket, x.made = append(slices.Clone(x.bucket), e), x.made+1
	}
	h.unlockStripe(s)
	return e
}

func (h *hand) drop(e *plainEntry) {
	if h.add(e, -1); e.users > 0 {
		return
	}
	s := ident.Stripe(e.key, h.c.Stripes)
	h.lockStripe(s)
	h.step(kindGet, objBucket, s)
	x := &h.stripes[s]
	if i := slices.Index(x.bucket, e); i >= 0 {
		h.step(kindLoad, objUsers, e.num)
		if e.users == 0 {
			h.step(kindSet, objBucket, s)
			x.bucket = slices.Delete(slices.Clone(x.bucket), i, i+1)
		}
	}
	h.unlockStripe(s)
}

func (h *hand) pin(slot int) plainRoot {
	h.step(kindLoad, objKeeper, 0)
	s := h.root.stamp
	h.step(kindStore, objKeeper, slot+1)
	h.pins[slot] = s + 1
	h.step(kindLoad, objKeeper, 0)
	return h.root
}

func (h *hand) unpin(slot int) {
	h.step(kindStore, objKeeper, slot+1)
	h.pins[slot] = 0
}

func (h *hand) publish(r plainRoot, retired []api.Ref) {
	h.step(kindStore, objKeeper, 0)
	h.root = r
	h.point(h.last(), r.stamp)
	list := len(h.pins) + 1
	h.step(kindGet, objKeeper, list)
	if len(retired) > 0 {
		h.step(kindSet, objKeeper, list)
		for _, x := range retired {
			h.list = append(h.list, plainRetired{x, r.stamp})
		}
	}
	if len(h.list) == 0 {
		return
	}
	var pins []int64
	for slot := range h.pins {
		h.step(kindLoad, objKeeper, slot+1)
		pins = append(pins, h.pins[slot])
	}
	var stay, goes []plainRetired
	for _, x := range h.list {
		held := slices.ContainsFunc(pins, func(pin int64) bool { return pin != 0 && pin < x.stamp+1 })
		if held {
			stay = append(stay, x)
		} else {
			goes = append(goes, x)
		}
	}
	if len(goes) == 0 {
		return
	}
	h.step(kindSet, objKeeper, list)
	h.list = stay
	for _, x := range goes {
		h.free(x.ref)
	}
}

func no(name string) string { return `{"ok":false,"error":"` + name + `"}` }

// make makes calls, one behind the other.
func (h *hand) make(raws []string) {
	defer func() {
		if thrown := recover(); thrown != nil && thrown != (halted{}) {
			panic(thrown)
		}
	}()
	for _, raw := range raws {
		h.step(kindCall, objCall, h.n)
		h.note(noteCall, raw)
		h.call = len(h.told.Calls)
		h.told.Calls = append(h.told.Calls, api.Call{Client: h.n, Raw: raw, Stamp: -1, Began: h.last(), Point: -1, Ended: -1})
		reply := h.answer(raw)
		h.step(kindReturn, objCall, h.n)
		h.note(noteReturn, reply)
		x := &h.told.Calls[h.call]
		x.Ended, x.Reply = h.last(), reply
	}
}

func (h *hand) answer(raw string) string {
	r, e, at := request.Parse(raw)
	if e != isOK {
		return request.Bad(e, at)
	}
	switch r.Op {
	case api.OpGet, api.OpScan, api.OpCount, api.OpDistinct, api.OpAggregate, api.OpExplain, api.OpChanges, api.OpStat:
		return h.read(r)
	case api.OpOpen:
		return h.open(r)
	case api.OpNext, api.OpClose:
		place := slices.Index(h.numbers[:], r.Cursor)
		if place < 0 {
			return no("none")
		}
		if r.Op == api.OpClose {
			h.unpin(h.slot(place))
			h.numbers[place] = 0
			return `{"ok":true}`
		}
		docs, done, _ := h.cursors[place].Next(h, h.roots[place].top(h.names[place]))
		return model.Page(docs, done)
	}
	return h.change(r)
}

func (h *hand) read(r api.Request) string {
	at := h.pin(h.n)
	h.point(h.last(), at.stamp)
	var items []api.Item
	if ids, all := model.Wanted(at.cat, r); all {
		items, _ = trie.All(h, at.top(r.In))
	} else if len(ids) > 0 {
		items, _ = trie.Some(h, at.top(r.In), ids)
	}
	h.unpin(h.n)
	return model.Read(at.cat, r, at.stamp, items, at.log)
}

func (h *hand) slot(place int) int { return h.c.Clients + h.n*maxCursors + place }

func (h *hand) open(r api.Request) string {
	place := slices.Index(h.numbers[:], 0)
	if place < 0 {
		return no("full")
	}
	at := h.pin(h.slot(place))
	h.point(h.last(), at.stamp)
	if _, there := at.cat.Coll(r.In); !there {
		h.unpin(h.slot(place))
		return no("coll")
	}
	q, _ := filter.Parse(r.Filter)
	f, _ := shape.ParseFields(r.Fields)
	batch := int(r.Batch)
	if batch == 0 {
		batch = 32
	}
	h.opened++
	h.numbers[place], h.roots[place], h.names[place] = h.opened, at, r.In
	h.cursors[place], _ = cursor.New(q, f, batch)
	return model.Opened(h.opened, at.stamp)
}

// change: the seven parts of P24.5.
func (h *hand) change(r api.Request) string {
	named := model.Named(r, h.n, h.made)
	keys := model.Keys(named)
	var entries []*plainEntry
	for _, key := range keys {
		e := h.take(key)
		h.wait(kindLock, objLatch, e.num, func() bool { return !e.held })
		e.held = true
		entries = append(entries, e)
	}

	var items []api.Item
	if len(keys) > 0 {
		at := h.pin(h.n)
		for _, key := range keys {
			in, id, _ := strings.Cut(key, "/")
			if x, there, _ := trie.Find(h, at.top(in), id); there {
				x.Key = key
				items = append(items, x)
			}
		}
		h.unpin(h.n)
	}

	h.wait(kindLock, objCommit, 0, func() bool { return !h.commit })
	h.commit = true
	h.step(kindLoad, objKeeper, 0)
	reply := h.commitOf(r, named, items)

	h.step(kindUnlock, objCommit, 0)
	h.commit = false
	for _, e := range entries {
		h.step(kindUnlock, objLatch, e.num)
		e.held = false
		h.drop(e)
	}
	return reply
}

// noting is a client's space that notes what was allocated.
type noting struct {
	*hand
	refs []api.Ref
	full bool
}

func (n *noting) Alloc(x api.Node) (api.Ref, api.Errno) {
	r, e := n.hand.Alloc(x)
	if e != isOK {
		n.full = true
	} else {
		n.refs = append(n.refs, r)
	}
	return r, e
}

func (h *hand) commitOf(r, named api.Request, items []api.Item) string {
	was := h.root
	if was.stamp == maxStamp {
		h.point(h.last(), was.stamp)
		return no("stamps")
	}
	if r.Op == api.OpIndex {
		items, _ = trie.All(h, was.top(r.In))
	}
	stamp := was.stamp + 1
	x := model.Apply(was.cat, named, items, stamp)
	space := noting{hand: h}
	next := plainRoot{stamp, x.Cat, was.log}
	if x.Cat == nil {
		next.cat = was.cat
	}
	var retired []api.Ref
	for _, m := range x.Edits {
		top, gone, _ := trie.Change(&space, was.top(m.In), m.Edits)
		if space.full {
			break
		}
		next.cat = next.cat.Moved(m.In, top)
		retired = append(retired, gone...)
	}
	if named.Id != r.Id && !space.full {
		h.made++
	}
	if space.full {
		for _, ref := range space.refs {
			h.free(ref)
		}
		h.publish(plainRoot{stamp, was.cat, was.log}, nil)
		return no("nodes")
	}
	next.log = was.log.With(stamp, x.Changes...)
	h.publish(next, retired)
	return x.Reply
}

// ending is how the store stands.
func (w *words) ending() api.Ending {
	nobody := &hand{words: w}
	x := api.Ending{Stamp: w.root.stamp, Made: len(w.nodes), Pooled: len(w.pool), Retired: len(w.list), Pins: w.pins}
	for _, name := range w.root.cat.Names() {
		k, _ := w.root.cat.Coll(name)
		x.Colls = append(x.Colls, k)
		items, _ := trie.All(nobody, k.Top)
		for _, y := range items {
			y.Key = name + "/" + y.Key
			x.Docs = append(x.Docs, y)
		}
		refs, _ := trie.Refs(nobody, k.Top)
		x.Reached += len(refs)
	}
	slices.SortFunc(x.Docs, func(a, b api.Item) int { return strings.Compare(a.Key, b.Key) })
	for _, s := range w.stripes {
		x.Entries += len(s.bucket)
	}
	return x
}

// play is P9.1, and how the store stands behind it.
func (w *words) play(calls [][]string, script []int) api.Played {
	w.told.Run.Ends, w.told.Run.Waits = make([]int, len(calls)), make([]api.Step, len(calls))
	var goOn []func() (wait, bool)
	var waits []*wait
	for n, raws := range calls {
		h := &hand{words: w, n: n}
		next, stop := iter.Pull(func(yield func(wait) bool) {
			h.yield = yield
			h.make(raws)
		})
		defer stop()
		goOn, waits = append(goOn, next), append(waits, nil)
	}
	move := func(n int) {
		waits[n] = nil
		if x, more := goOn[n](); more {
			waits[n] = &x
		}
	}
	for n := range calls {
		move(n)
	}
	run := &w.told.Run
	for {
		var open []int
		for n, x := range waits {
			if x != nil && (x.ready == nil || x.ready()) {
				open = append(open, n)
			}
		}
		if len(open) == 0 || run.Used == len(script) {
			run.Stuck = len(open) == 0 && slices.ContainsFunc(waits, func(x *wait) bool { return x != nil })
			break
		}
		n := open[(script[run.Used]%len(open)+len(open))%len(open)]
		run.Used++
		run.Events = append(run.Events, api.Event{Client: n, Step: waits[n].step})
		move(n)
	}
	for n, x := range waits {
		run.Ends[n] = hasEnded
		if x != nil {
			run.Ends[n], run.Waits[n] = wasStopped, x.step
		}
	}
	w.told.End = w.ending()
	return w.told
}

func tellCalls(l []api.Call) string {
	var all []string
	for _, x := range l {
		all = append(all, fmt.Sprintf("%d: %s %s, stamp %d, %d %d %d", x.Client, x.Raw, x.Reply, x.Stamp, x.Began, x.Point, x.Ended))
	}
	return strings.Join(all, "\n")
}

func tellNotes(l []api.Note) string { return strings.ReplaceAll(fmt.Sprintf("%+v", l), "} {", "}\n{") }

// wantPlayed holds a whole run against another one.
func wantPlayed(t *testing.T, what string, got, want api.Played) {
	t.Helper()
	for i, x := range want.Run.Events {
		if i == len(got.Run.Events) || got.Run.Events[i] != x {
			t.Fatalf("%s: event %d is not %v of\n%s\nbut of\n%s", what, i, x, tellRun(want.Run.Events[:i+1]), tellRun(got.Run.Events[:min(i+1, len(got.Run.Events))]))
		}
	}
	if len(got.Run.Events) > len(want.Run.Events) {
		t.Fatalf("%s: %d events, not %d", what, len(got.Run.Events), len(want.Run.Events))
	}
	for _, x := range [][2]string{
		{tellCalls(got.Calls), tellCalls(want.Calls)},
		{tellNotes(got.Run.Notes), tellNotes(want.Run.Notes)},
		{fmt.Sprint(got.Run.Ends, got.Run.Waits, got.Run.Stuck, got.Run.Used), fmt.Sprint(want.Run.Ends, want.Run.Waits, want.Run.Stuck, want.Run.Used)},
		{fmt.Sprintf("%+v", got.End), fmt.Sprintf("%+v", want.End)},
	} {
		if x[0] != x[1] {
			t.Fatalf("%s:\n%s\nnot\n%s", what, x[0], x[1])
		}
	}
}

// took counts what was met, so that a test that says little is found out.
type took map[string]int

func (k took) note(calls []api.Call) {
	for _, x := range calls {
		op := "none"
		if r, e, _ := request.Parse(x.Raw); e == isOK {
			op = fmt.Sprint(r.Op)
		}
		word := "yes"
		if _, rest, bad := strings.Cut(x.Reply, `{"ok":false,"error":"`); bad && strings.HasPrefix(x.Reply, `{"ok":false`) {
			word, _, _ = strings.Cut(rest, `"`)
		}
		if x.Ended < 0 {
			word = "stopped"
			if x.Point >= 0 {
				word = "stopped behind its point"
			}
		}
		k[op+" "+word]++
	}
}

// P24.2 to P24.8: whole runs, of any calls under any script, held against the words; with them P24.15: no Get of a node fails.
func TestRunByTheWords(t *testing.T) {
	count := took{}
	for seed := range int64(3000) {
		x := newDice(seed).scene()
		got, e := docstore.Run(x.c, x.calls, x.script)
		if e != isOK {
			t.Fatalf("%v: %d", x, e)
		}
		w := newWords(x.c)
		wantPlayed(t, fmt.Sprintf("%d: %v", seed, x), got, w.play(x.calls, x.script))
		if w.lost > 0 {
			t.Fatalf("%d: %v: %d Gets failed", seed, x, w.lost)
		}
		count.note(got.Calls)
	}
	for _, key := range []string{
		"none op", "none missing", "1 yes", "1 none", "1 coll", "2 yes", "2 there", "2 coll", "2 full", "2 unique", "2 schema", "2 nodes", "3 yes", "3 none", "3 stale", "3 nodes", "4 yes", "4 none", "4 stale", "4 nodes", "5 yes", "5 none", "6 yes", "6 none", "6 stale",
		"7 yes", "7 coll", "8 yes", "9 yes", "10 yes", "11 yes", "12 yes", "12 horizon", "13 yes", "13 there", "13 none", "13 coll", "13 nodes", "14 yes", "14 coll", "14 full", "15 yes", "15 none", "16 yes", "16 none", "17 yes", "17 there", "18 yes", "18 notempty", "19 yes", "19 there", "19 coll", "19 unique", "20 yes", "20 none", "21 yes",
		"2 stopped", "2 stopped behind its point", "4 stopped", "13 stopped behind its point", "7 stopped behind its point", "15 stopped", "17 stopped behind its point",
	} {
		if count[key] < 3 {
			t.Errorf("%q was met only %d times", key, count[key])
		}
	}
}
