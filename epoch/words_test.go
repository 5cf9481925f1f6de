package epoch_test

import (
	"fmt"
	"math"
	"slices"
	"strings"
	"testing"

	"docket/api"
	"docket/chain"
	"docket/heap"
	"docket/prim"
	"docket/sched"
)

// The chapter's words, written plainly: a call is a chain of steps, each with what it does.

// What an act is a call of.
const (
	toRoot = iota
	toPin
	toUnpin
	toPublish
	toPass
	toLook
	allActs
)

func nameOf(what int) string {
	return [allActs]string{"Root", "Pin", "Unpin", "Publish", "Pass", "Look"}[what]
}

// act is a call: of the slot; with a root of that stamp, and Refs that numbers stand for.
type act struct {
	what, slot int
	stamp      int64
	of         []int
}

// entry is a node of the list, with the stamp of the root that was published without it.
type entry struct {
	ref   api.Ref
	stamp int64
}

type plainNode struct {
	gen  int
	live bool
}

// words are a keeper, and its heap, by the words.
type words struct {
	root  int64
	pins  []int64
	list  []entry
	most  int
	nodes []plainNode // by their numbers, from 1 on
	pool  []int
	lock  *chain.Lock // nil: there is none
	told  []api.Ref
	lines []string
}

// fill uses again, and makes, nodes until all that may be are there: it is no part of the chapter, and takes no steps.
func (w *words) fill() {
	for len(w.pool) > 0 {
		n := len(w.pool) - 1
		num := w.pool[n]
		w.pool = w.pool[:n]
		w.nodes[num-1].live = true
		w.told = append(w.told, ref(num, w.nodes[num-1].gen))
	}
	for len(w.nodes) < w.most {
		w.nodes = append(w.nodes, plainNode{gen: 1, live: true})
		w.told = append(w.told, ref(len(w.nodes), 1))
	}
}

// refsOf are those of an act: mostly such as were told, whether they were freed meanwhile or not.
func refsOf(told []api.Ref, of []int) []api.Ref {
	var all []api.Ref
	for _, n := range of {
		if i := n % (len(told) + 1); i < len(told) {
			all = append(all, told[i])
		} else {
			all = append(all, ref(n%9-1, n%3))
		}
	}
	return all
}

func line(client int, what int, rest ...any) string {
	return fmt.Sprint(client, " ", nameOf(what), ": ", fmt.Sprint(rest...))
}

func (w *words) loadRoot(then func(int64) *chain.Link) *chain.Link {
	return chain.Of(at(kindLoad, 0), func() *chain.Link { return then(w.root) })
}

func (w *words) storePin(slot int, v int64, then func() *chain.Link) *chain.Link {
	return chain.Of(at(kindStore, slot+1), func() *chain.Link {
		w.pins[slot] = v
		return then()
	})
}

func (w *words) hasSlot(slot int) bool { return slot >= 0 && slot < len(w.pins) }

func (w *words) pin(slot int, then func(int64) *chain.Link) *chain.Link {
	if !w.hasSlot(slot) {
		return w.loadRoot(then)
	}
	return w.loadRoot(func(s int64) *chain.Link {
		return w.storePin(slot, s+1, func() *chain.Link { return w.loadRoot(then) })
	})
}

func (w *words) unpin(slot int, then func() *chain.Link) *chain.Link {
	if !w.hasSlot(slot) {
		return then()
	}
	return w.storePin(slot, 0, then)
}

func (w *words) listNum() int { return len(w.pins) + 1 }

func (w *words) publish(stamp int64, retired []api.Ref, then func(int) *chain.Link) *chain.Link {
	return chain.Of(at(kindStore, 0), func() *chain.Link {
		w.root = stamp
		return chain.Of(at(kindGet, w.listNum()), func() *chain.Link {
			l := slices.Clone(w.list)
			if len(retired) == 0 {
				return w.pass(l, then)
			}
			for _, r := range retired {
				l = append(l, entry{r, stamp})
			}
			return chain.Of(at(kindSet, w.listNum()), func() *chain.Link {
				w.list = slices.Clone(l)
				return w.pass(l, then)
			})
		})
	})
}

func (w *words) passAlone(then func(int) *chain.Link) *chain.Link {
	return chain.Of(at(kindGet, w.listNum()), func() *chain.Link { return w.pass(slices.Clone(w.list), then) })
}

func (w *words) pass(l []entry, then func(int) *chain.Link) *chain.Link {
	if len(l) == 0 {
		return then(0)
	}
	return w.loadPins(nil, func(pins []int64) *chain.Link {
		var stay, free []entry
		for _, n := range l {
			if freeToGo(n.stamp, pins) {
				free = append(free, n)
			} else {
				stay = append(stay, n)
			}
		}
		if len(free) == 0 {
			return then(0)
		}
		return chain.Of(at(kindSet, w.listNum()), func() *chain.Link {
			w.list = stay
			return w.freeAll(free, 0, then)
		})
	})
}

// freeToGo: each pin is 0, or at least t + 1.
func freeToGo(t int64, pins []int64) bool {
	for _, p := range pins {
		if !(p == 0 || p >= t+1) {
			return false
		}
	}
	return true
}

func (w *words) loadPins(so []int64, then func([]int64) *chain.Link) *chain.Link {
	if len(so) == len(w.pins) {
		return then(so)
	}
	return chain.Of(at(kindLoad, len(so)+1), func() *chain.Link {
		return w.loadPins(append(slices.Clone(so), w.pins[len(so)]), then)
	})
}

func (w *words) freeAll(l []entry, freed int, then func(int) *chain.Link) *chain.Link {
	if len(l) == 0 {
		return then(freed)
	}
	return w.free(l[0].ref, func(ok bool) *chain.Link {
		if ok {
			return w.freeAll(l[1:], freed+1, then)
		}
		return w.freeAll(l[1:], freed, then)
	})
}

// free: chapter 12's.
func (w *words) free(r api.Ref, then func(bool) *chain.Link) *chain.Link {
	if r.Num < 1 || r.Num > len(w.nodes) {
		return then(false)
	}
	return chain.Of(in(kindGet, r.Num), func() *chain.Link {
		if n := w.nodes[r.Num-1]; !n.live || n.gen != r.Gen {
			return then(false)
		}
		return chain.Of(in(kindSet, r.Num), func() *chain.Link {
			w.nodes[r.Num-1] = plainNode{gen: r.Gen + 1}
			return chain.Of(in(kindGet, 0), func() *chain.Link {
				more := append(slices.Clone(w.pool), r.Num)
				return chain.Of(in(kindSet, 0), func() *chain.Link {
					w.pool = more
					return then(true)
				})
			})
		})
	})
}

// act is a client's act number i, and those behind it.
func (w *words) act(client int, acts []act, i int) *chain.Link {
	if i == len(acts) {
		return nil
	}
	a := acts[i]
	write := func(rest ...any) { w.lines = append(w.lines, line(client, a.what, rest...)) }
	then := func() *chain.Link { return w.act(client, acts, i+1) }
	wrote := func(after func() *chain.Link) func(int) *chain.Link {
		return func(n int) *chain.Link {
			write(n)
			return after()
		}
	}
	saw := func(s int64) *chain.Link {
		write(s)
		return then()
	}
	switch a.what {
	case toRoot:
		return w.loadRoot(saw)
	case toPin:
		return w.pin(a.slot, saw)
	case toUnpin:
		return w.unpin(a.slot, then)
	case toPublish:
		return w.lock.Around(lockObj, func(after func() *chain.Link) *chain.Link {
			return w.publish(a.stamp, refsOf(w.told, a.of), wrote(after))
		}, then)
	case toPass:
		return w.lock.Around(lockObj, func(after func() *chain.Link) *chain.Link { return w.passAlone(wrote(after)) }, then)
	}
	write(w.pins, len(w.list))
	return then()
}

// play runs programs by the words.
func (w *words) play(programs [][]act, script []int, lock bool) api.Run {
	w.lock, w.lines = nil, nil
	if lock {
		w.lock = &chain.Lock{}
	}
	clients := make([]*chain.Link, len(programs))
	for i, acts := range programs {
		clients[i] = w.act(i, acts, 0)
	}
	return chain.Play(clients, script)
}

// built is the keeper itself, under the same programs.
type built struct {
	world *prim.World
	h     *heap.Heap[string]
	k     *keeper
	told  []api.Ref
	lines []string
}

// twins are a keeper and its words, in the same state at first.
func twins(t *testing.T, world *prim.World, slots, most int, first int64) (*built, *words) {
	t.Helper()
	h := mustHeap[string](t, world, most)
	b := &built{world: world, h: h, k: mustKeep(t, world, h, slots, root{stamp: first})}
	return b, &words{root: first, pins: make([]int64, slots), most: most}
}

func (b *built) play(t *testing.T, programs [][]act, script []int, lock bool) api.Run {
	t.Helper()
	b.lines = nil
	m := b.world.Mutex(lockObj, 0)
	if !lock {
		m = nil
	}
	var bodies []client
	for _, acts := range programs {
		bodies = append(bodies, func(c *sched.Client) {
			for _, a := range acts {
				b.act(c, m, a)
			}
		})
	}
	return mustRun(t, bodies, script...)
}

func (b *built) act(c *sched.Client, m *prim.Mutex, a act) {
	write := func(rest ...any) { b.lines = append(b.lines, line(c.Number(), a.what, rest...)) }
	switch a.what {
	case toRoot:
		write(b.k.Root(c).stamp)
	case toPin:
		write(b.k.Pin(c, a.slot).stamp)
	case toUnpin:
		b.k.Unpin(c, a.slot)
	case toLook:
		write(b.k.Pins(), b.k.Retired())
	case toPublish:
		m.Lock(c)
		write(b.k.Publish(c, root{stamp: a.stamp}, refsOf(b.told, a.of)))
		m.Unlock(c)
	case toPass:
		m.Lock(c)
		write(b.k.Pass(c))
		m.Unlock(c)
	}
}

// fill: as the words have it.
func (b *built) fill() {
	for r, e := b.h.Alloc(nil, "x"); e == isOK; r, e = b.h.Alloc(nil, "x") {
		b.told = append(b.told, r)
	}
}

// act is any; the stamps of most are such that they lie about one another.
func (d dice) act(slots int) act {
	a := act{what: []int{toRoot, toPin, toPin, toPin, toUnpin, toUnpin, toPublish, toPublish, toPublish, toPass, toLook}[d.Intn(11)]}
	a.slot = d.Intn(slots)
	if d.Intn(15) == 0 {
		a.slot = []int{-1, slots, slots + 1, math.MaxInt, math.MinInt}[d.Intn(5)]
	}
	a.stamp = int64(d.Intn(12)) - 2
	if d.Intn(30) == 0 {
		a.stamp = []int64{math.MaxInt64, math.MinInt64, math.MaxInt64 - 1, maxStamp, -1, -2}[d.Intn(6)]
	}
	for range d.Intn(5) {
		a.of = append(a.of, d.Intn(1000))
	}
	return a
}

func (d dice) programs(clients, length, slots int) [][]act {
	programs := make([][]act, d.Intn(clients)+1)
	for i := range programs {
		for range d.Intn(length + 1) {
			programs[i] = append(programs[i], d.act(slots))
		}
	}
	return programs
}

// wantSame looks whether the keeper and its heap stand as the words say.
func wantSame(t *testing.T, b *built, w *words) {
	t.Helper()
	wantPins(t, b.k, w.pins...)
	wantRetired(t, b.k, len(w.list))
	if r := b.k.Root(nil); r.stamp != w.root {
		t.Errorf("the root %v; want %d", r, w.root)
	}
	if b.h.Made() != len(w.nodes) || b.h.Pooled() != len(w.pool) {
		t.Errorf("%d made, %d pooled; want %d, %d", b.h.Made(), b.h.Pooled(), len(w.nodes), len(w.pool))
	}
	for i, n := range w.nodes {
		if _, live := b.h.Get(nil, ref(i+1, n.gen)); live != n.live || b.h.Gen(i+1) != n.gen {
			t.Errorf("node %d: %v, of the generation %d; want %v", i+1, live, b.h.Gen(i+1), n)
		}
	}
}

// wantRuns plays several runs on each of many keepers, one behind the other, also behind runs that were cut off in the midst of calls.
func wantRuns(t *testing.T, d dice, keepers int, lock bool) map[string]int {
	t.Helper()
	seen := map[string]int{}
	for range keepers {
		slots := d.Intn(4) + 1
		b, w := twins(t, prim.Scripted(), slots, d.Intn(9)+1, int64(d.Intn(6)))
		for range d.Intn(4) + 1 {
			b.fill()
			w.fill()
			programs, script := d.programs(4, 12, slots), d.script(d.Intn(250))
			want := w.play(programs, script, lock)
			got := b.play(t, programs, script, lock)
			if !slices.Equal(got.Events, want.Events) || !slices.Equal(got.Ends, want.Ends) || !slices.Equal(got.Waits, want.Waits) || got.Used != want.Used || got.Stuck != want.Stuck {
				t.Fatalf("%v under %v:\n%v\nwant\n%v", programs, script, got, want)
			}
			if !slices.Equal(b.lines, w.lines) {
				t.Fatalf("%v under %v: told\n%q\nwant\n%q", programs, script, b.lines, w.lines)
			}
			wantSame(t, b, w)
			count(seen, w, got)
			if t.Failed() {
				t.Fatalf("%v under %v", programs, script)
			}
		}
	}
	return seen
}

// count tells of which cases there were how many, so that a test knows that it looked at all of them.
func count(seen map[string]int, w *words, r api.Run) {
	for i, e := range r.Ends {
		if x := r.Waits[i]; e == wasStopped {
			num := "a pin"
			if x.Obj != keeperObj || x.Num == 0 {
				num = fmt.Sprint(min(x.Num, 1))
			} else if x.Num == w.listNum() {
				num = "the list"
			}
			seen[fmt.Sprint("stopped at kind ", x.Kind, " of ", x.Obj, "/", num)]++
		}
	}
	if len(w.list) > 0 {
		seen["something is left"]++
	}
	for _, l := range w.lines {
		_, l, _ = strings.Cut(l, " ")
		seen[l]++
	}
}

func wantSeen(t *testing.T, seen map[string]int, least int, all ...string) {
	t.Helper()
	for _, what := range all {
		if seen[what] < least {
			t.Errorf("%s: %d times only", what, seen[what])
		}
	}
}

// P14.2 to P14.6: Publish, Pass and Alloc under a lock, pins at any time.
func TestWords(t *testing.T) {
	seen := wantRuns(t, newDice(1), 6000, true)
	wantSeen(t, seen, 100,
		"stopped at kind 5 of 4/0", "stopped at kind 6 of 4/0", "stopped at kind 5 of 4/a pin", "stopped at kind 6 of 4/a pin",
		"stopped at kind 8 of 4/the list", "stopped at kind 9 of 4/the list",
		"stopped at kind 8 of 5/1", "stopped at kind 9 of 5/1", "stopped at kind 1 of 3/0", "something is left",
		"Publish: 0", "Publish: 1", "Publish: 2", "Publish: 3", "Pass: 0", "Pass: 1", "Pin: 3", "Root: 3")
	wantSeen(t, seen, 5, "Pass: 2", fmt.Sprint("Pin: ", math.MaxInt64), fmt.Sprint("Pin: ", math.MinInt64), "Pin: -1")
}

// Several at one time, without a lock: nothing is promised but by each step; and no call panics.
func TestWordsByEachStep(t *testing.T) {
	wantRuns(t, newDice(2), 6000, false)
}

// With a nil client, in the real world too: one call behind the other, without steps.
func TestWordsByNobody(t *testing.T) {
	d := newDice(3)
	for _, world := range []*prim.World{prim.Scripted(), prim.Real(), nil} {
		for range 1500 {
			slots := d.Intn(6) + 1
			b, w := twins(t, world, slots, d.Intn(40)+1, int64(d.Intn(6)))
			var acts []act
			for range 150 {
				acts = append(acts, d.act(slots))
			}
			for part := range slices.Chunk(acts, 15) {
				b.fill()
				w.fill()
				for _, a := range part {
					b.act(nil, nil, a)
				}
				chain.Done(w.act(-1, part, 0))
			}
			if !slices.Equal(b.lines, w.lines) {
				t.Fatalf("%v: told\n%q\nwant\n%q", acts, b.lines, w.lines)
			}
			wantSame(t, b, w)
		}
	}
}
