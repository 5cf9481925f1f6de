package heap_test

import (
	"fmt"
	"slices"
	"strings"
	"testing"

	"docket/api"
	"docket/chain"
	"docket/heap"
	"docket/prim"
	"docket/sched"
)

// The chapter's words, written plainly: a call is a chain of steps, each with what it does.

// What an act is a call of.
const (
	toAlloc = iota
	toFree
	toGet
	allActs
)

// act is a call, with a number that says of which Ref: of those told so far, or one that is none.
type act struct{ what, of int }

// lockObj is that of the lock under which Alloc and Free are called.
const lockObj = 4

type plainNode struct {
	gen   int
	live  bool
	value string
}

// words are a heap by the words.
type words struct {
	most  int
	nodes []plainNode // by their numbers, from 1 on
	pool  []int
	lock  *chain.Lock // nil: there is none
	told  []api.Ref
	lines []string
}

// refOf is that of an act: mostly one that was told, whether it was freed meanwhile or not.
func refOf(told []api.Ref, of int) api.Ref {
	i := of % (len(told) + 3)
	if i < len(told) {
		return told[i]
	}
	return ref(of%7-1, of%3)
}

func line(client int, a act, rest ...any) string {
	return fmt.Sprint(client, a, rest)
}

// always is a step that is always ready.
func always(kind, num int, do func() *chain.Link) *chain.Link { return chain.Of(at(kind, num), do) }

func (w *words) alloc(v string, then func(api.Ref, int) *chain.Link) *chain.Link {
	return always(kindGet, 0, func() *chain.Link {
		if n := len(w.pool); n > 0 {
			num, rest := w.pool[n-1], slices.Clone(w.pool[:n-1])
			return always(kindSet, 0, func() *chain.Link {
				w.pool = rest
				r := ref(num, w.nodes[num-1].gen)
				return w.lay(r, v, then)
			})
		}
		if len(w.nodes) < w.most {
			return w.lay(ref(len(w.nodes)+1, 1), v, then)
		}
		return then(ref(0, 0), isFull)
	})
}

// lay is the Set with which an Alloc ends.
func (w *words) lay(r api.Ref, v string, then func(api.Ref, int) *chain.Link) *chain.Link {
	return always(kindSet, r.Num, func() *chain.Link {
		if r.Num > len(w.nodes) {
			w.nodes = append(w.nodes, plainNode{})
		}
		w.nodes[r.Num-1] = plainNode{gen: r.Gen, live: true, value: v}
		return then(r, isOK)
	})
}

func (w *words) get(r api.Ref, then func(string, bool) *chain.Link) *chain.Link {
	if r.Num < 1 || r.Num > len(w.nodes) {
		return then("", false)
	}
	return always(kindGet, r.Num, func() *chain.Link {
		n := w.nodes[r.Num-1]
		if !n.live || n.gen != r.Gen {
			return then("", false)
		}
		return then(n.value, true)
	})
}

func (w *words) free(r api.Ref, then func(bool) *chain.Link) *chain.Link {
	return w.get(r, func(_ string, there bool) *chain.Link {
		if !there {
			return then(false)
		}
		return always(kindSet, r.Num, func() *chain.Link {
			w.nodes[r.Num-1] = plainNode{gen: r.Gen + 1}
			return always(kindGet, 0, func() *chain.Link {
				more := append(slices.Clone(w.pool), r.Num)
				return always(kindSet, 0, func() *chain.Link {
					w.pool = more
					return then(true)
				})
			})
		})
	})
}

// act is a client's act number i, and those behind it.
func (w *words) act(client int, acts []act, i int) *chain.Link {
	if i == len(acts) {
		return nil
	}
	a := acts[i]
	write := func(rest ...any) { w.lines = append(w.lines, line(client, a, rest...)) }
	then := func() *chain.Link { return w.act(client, acts, i+1) }
	switch a.what {
	case toAlloc:
		return w.lock.Around(lockObj, func(after func() *chain.Link) *chain.Link {
			return w.alloc(line(client, a, i), func(r api.Ref, e int) *chain.Link {
				if e == isOK {
					w.told = append(w.told, r)
				}
				write(r, e)
				return after()
			})
		}, then)
	case toFree:
		return w.lock.Around(lockObj, func(after func() *chain.Link) *chain.Link {
			return w.free(refOf(w.told, a.of), func(ok bool) *chain.Link {
				write(ok)
				return after()
			})
		}, then)
	}
	return w.get(refOf(w.told, a.of), func(v string, ok bool) *chain.Link {
		write(v, ok)
		return then()
	})
}

// play runs programs by the words.
func (w *words) play(programs [][]act, script []int, lock bool) api.Run {
	w.lock, w.lines = nil, nil
	if lock {
		w.lock = &chain.Lock{}
	}
	clients := make([]*chain.Link, len(programs))
	for i, acts := range programs {
		clients[i] = w.act(i, acts, 0)
	}
	return chain.Play(clients, script)
}

// built is the heap itself, under the same programs.
type built struct {
	h     *heap.Heap[string]
	world *prim.World
	told  []api.Ref
	lines []string
}

func (b *built) play(t *testing.T, programs [][]act, script []int, lock bool) api.Run {
	t.Helper()
	b.lines = nil
	m := b.world.Mutex(lockObj, 0)
	if !lock {
		m = nil
	}
	var bodies []client
	for _, acts := range programs {
		bodies = append(bodies, func(c *sched.Client) {
			for i, a := range acts {
				b.act(c, m, a, i)
			}
		})
	}
	return mustRun(t, bodies, script...)
}

func (b *built) act(c *sched.Client, m *prim.Mutex, a act, i int) {
	write := func(rest ...any) { b.lines = append(b.lines, line(c.Number(), a, rest...)) }
	switch a.what {
	case toAlloc:
		m.Lock(c)
		r, e := b.h.Alloc(c, line(c.Number(), a, i))
		if e == isOK {
			b.told = append(b.told, r)
		}
		write(r, int(e))
		m.Unlock(c)
	case toFree:
		m.Lock(c)
		write(b.h.Free(c, refOf(b.told, a.of)))
		m.Unlock(c)
	case toGet:
		v, ok := b.h.Get(c, refOf(b.told, a.of))
		write(v, ok)
	}
}

func (d dice) programs(clients, length int) [][]act {
	programs := make([][]act, d.Intn(clients)+1)
	for i := range programs {
		for range d.Intn(length + 1) {
			programs[i] = append(programs[i], act{d.Intn(allActs), d.Intn(1000)})
		}
	}
	return programs
}

// wantSame looks whether the heap stands as the words say.
func wantSame(t *testing.T, b *built, w *words) {
	t.Helper()
	var gens []int
	for _, n := range w.nodes {
		gens = append(gens, n.gen)
	}
	wantCounts(t, b.h, len(w.nodes), len(w.pool), len(w.nodes)-len(w.pool), gens...)
	for i, n := range w.nodes {
		for gen := range n.gen + 2 {
			v, ok := b.h.Get(nil, ref(i+1, gen))
			if ok != (n.live && gen == n.gen) || v != "" && !ok || ok && v != n.value {
				t.Errorf("Get of %v: %q, %v; want %v", ref(i+1, gen), v, ok, n)
			}
		}
	}
}

// wantRuns plays several runs on each of many heaps, one behind the other, also behind runs that were cut off in the midst of calls.
func wantRuns(t *testing.T, d dice, heaps int, lock bool) map[string]int {
	t.Helper()
	seen := map[string]int{}
	for range heaps {
		most := d.Intn(6) + 1
		w := &words{most: most}
		world := prim.Scripted()
		b := &built{h: mustNew[string](t, world, most), world: world}
		for range d.Intn(4) + 1 {
			programs, script := d.programs(4, 10), d.script(d.Intn(120))
			want := w.play(programs, script, lock)
			got := b.play(t, programs, script, lock)
			if !slices.Equal(got.Events, want.Events) || !slices.Equal(got.Ends, want.Ends) || !slices.Equal(got.Waits, want.Waits) || got.Used != want.Used || got.Stuck != want.Stuck {
				t.Fatalf("%v under %v:\n%v\nwant\n%v", programs, script, got, want)
			}
			if !slices.Equal(b.lines, w.lines) {
				t.Fatalf("%v under %v: told\n%q\nwant\n%q", programs, script, b.lines, w.lines)
			}
			wantSame(t, b, w)
			count(seen, w, got)
			if t.Failed() {
				t.Fatalf("%v under %v", programs, script)
			}
		}
	}
	return seen
}

// count tells of which cases there were how many, so that a test knows that it looked at all of them.
func count(seen map[string]int, w *words, r api.Run) {
	for i, e := range r.Ends {
		if x := r.Waits[i]; e == wasStopped {
			seen[fmt.Sprint("stopped at kind ", x.Kind, " of ", x.Obj, "/", min(x.Num, 1))]++
		}
	}
	for _, n := range w.nodes {
		if n.live && n.gen > 2 {
			seen["used a third time"]++
		}
	}
	for _, l := range w.lines {
		what, answer := l[strings.Index(l, "{")+1]-'0', l[strings.LastIndexAny(l, " [")+1:]
		seen[[allActs]string{"Alloc", "Free", "Get"}[what]+": "+strings.Trim(answer, "]")]++
	}
}

// P12.2 to P12.5: Alloc and Free under a lock, Gets at any time.
func TestWords(t *testing.T) {
	seen := wantRuns(t, newDice(2), 6000, true)
	for _, what := range []string{
		"stopped at kind 1 of 4/0", "stopped at kind 2 of 4/0",
		"stopped at kind 8 of 5/0", "stopped at kind 9 of 5/0", "stopped at kind 8 of 5/1", "stopped at kind 9 of 5/1",
		"used a third time",
		"Alloc: 0", "Alloc: 5", "Free: true", "Free: false", "Get: true", "Get: false",
	} {
		if seen[what] < 200 {
			t.Errorf("%s: %d times only", what, seen[what])
		}
	}
}

// Alloc and Free of several at one time: nothing is promised but by each step; and no call panics.
func TestWordsByEachStep(t *testing.T) {
	wantRuns(t, newDice(3), 6000, false)
}

// With a nil client, in the real world too: one call behind the other, without steps.
func TestWordsByNobody(t *testing.T) {
	d := newDice(4)
	for _, world := range []*prim.World{prim.Scripted(), prim.Real(), nil} {
		for range 1500 {
			most := d.Intn(40) + 1
			w := &words{most: most}
			b := &built{h: mustNew[string](t, world, most)}
			var acts []act
			for i := range 150 {
				a := act{d.Intn(allActs), d.Intn(1000)}
				acts = append(acts, a)
				b.act(nil, nil, a, i)
			}
			chain.Done(w.act(-1, acts, 0))
			if !slices.Equal(b.lines, w.lines) {
				t.Fatalf("%v: told\n%q\nwant\n%q", acts, b.lines, w.lines)
			}
			wantSame(t, b, w)
		}
	}
}
