package stripe_test

import (
	"fmt"
	"slices"
	"strings"
	"testing"

	"docket/api"
	"docket/chain"
	"docket/prim"
	"docket/sched"
	"docket/stripe"
)

// The chapter's words, written plainly: a call is a chain of steps, each with what it does.

// What an act is a call of.
const (
	toTake = iota
	toDrop
	toLock
	toUnlock
	toLook
	allActs
)

func nameOf(what int) string {
	return [allActs]string{"Take", "Drop", "Lock", "Unlock", "Look"}[what]
}

// act is a call: at one of the tables; of a key; or of one of the entries that were told so far.
type act struct {
	what, table int
	key         string
	of          int
}

// plainEntry is an entry by the words; the users' and the latch's steps bear the obj of the table that made it.
type plainEntry struct {
	key   string
	num   int
	obj   int
	users int64
	held  bool
}

type plainBucket struct {
	entries []*plainEntry
	made    int
	slots   int
}

type plainStripe struct {
	held    bool
	readers int
	bucket  plainBucket
}

type plainTable struct {
	obj     int
	stripes []plainStripe
}

// words are tables by the words, and what was told of them.
type words struct {
	tables []*plainTable
	told   []*plainEntry
	lines  []string
}

func newPlain(obj, stripes int) *plainTable {
	p := &plainTable{obj: obj, stripes: make([]plainStripe, stripes)}
	for s := range p.stripes {
		p.stripes[s].bucket.slots = 1
	}
	return p
}

// The steps of a stripe, with what comes behind them.

func (p *plainTable) rlock(s int, then func() *chain.Link) *chain.Link {
	x := &p.stripes[s]
	return &chain.Link{
		Step:  at(kindRLock, p.obj, s),
		Ready: func() bool { return !x.held },
		Do: func() *chain.Link {
			x.readers++
			return then()
		},
	}
}

func (p *plainTable) runlock(s int, then func() *chain.Link) *chain.Link {
	return chain.Of(at(kindRUnlock, p.obj, s), func() *chain.Link {
		p.stripes[s].readers = max(p.stripes[s].readers-1, 0)
		return then()
	})
}

func (p *plainTable) lock(s int, then func() *chain.Link) *chain.Link {
	x := &p.stripes[s]
	return &chain.Link{
		Step:  at(kindLock, p.obj, s),
		Ready: func() bool { return !x.held && x.readers == 0 },
		Do: func() *chain.Link {
			x.held = true
			return then()
		},
	}
}

func (p *plainTable) unlock(s int, then func() *chain.Link) *chain.Link {
	return chain.Of(at(kindUnlock, p.obj, s), func() *chain.Link {
		p.stripes[s].held = false
		return then()
	})
}

func (p *plainTable) get(s int, then func(plainBucket) *chain.Link) *chain.Link {
	return chain.Of(at(kindGet, p.obj+1, s), func() *chain.Link {
		b := p.stripes[s].bucket
		b.entries = slices.Clone(b.entries)
		return then(b)
	})
}

func (p *plainTable) set(s int, b plainBucket, then func() *chain.Link) *chain.Link {
	return chain.Of(at(kindSet, p.obj+1, s), func() *chain.Link {
		p.stripes[s].bucket = b
		return then()
	})
}

func (e *plainEntry) add(d int64, then func(int64) *chain.Link) *chain.Link {
	return chain.Of(at(kindAdd, e.obj+3, e.num), func() *chain.Link {
		e.users += d
		return then(e.users)
	})
}

func (e *plainEntry) read(then func(int64) *chain.Link) *chain.Link {
	return chain.Of(at(kindLoad, e.obj+3, e.num), func() *chain.Link { return then(e.users) })
}

func (b plainBucket) of(key string) *plainEntry {
	for _, e := range b.entries {
		if e.key == key {
			return e
		}
	}
	return nil
}

// take: P15.2.
func (p *plainTable) take(key string, then func(*plainEntry) *chain.Link) *chain.Link {
	s := stripeOf(key, len(p.stripes))
	return p.rlock(s, func() *chain.Link {
		return p.get(s, func(b plainBucket) *chain.Link {
			if e := b.of(key); e != nil {
				return e.add(1, func(int64) *chain.Link {
					return p.runlock(s, func() *chain.Link { return then(e) })
				})
			}
			return p.runlock(s, func() *chain.Link {
				return p.lock(s, func() *chain.Link { return p.takeHeld(s, key, then) })
			})
		})
	})
}

func (p *plainTable) takeHeld(s int, key string, then func(*plainEntry) *chain.Link) *chain.Link {
	return p.get(s, func(b plainBucket) *chain.Link {
		if e := b.of(key); e != nil {
			return e.add(1, func(int64) *chain.Link {
				return p.unlock(s, func() *chain.Link { return then(e) })
			})
		}
		e := &plainEntry{key: key, num: s + b.made*len(p.stripes), obj: p.obj, users: 1}
		if len(b.entries)+1 > slotLoad*b.slots {
			b.slots *= 2
		}
		b.entries = append(b.entries, e)
		b.made++
		return p.set(s, b, func() *chain.Link {
			return p.unlock(s, func() *chain.Link { return then(e) })
		})
	})
}

// drop: P15.3.
func (p *plainTable) drop(e *plainEntry, then func() *chain.Link) *chain.Link {
	if e == nil {
		return then()
	}
	s := stripeOf(e.key, len(p.stripes))
	unlock := func() *chain.Link { return p.unlock(s, then) }
	return e.add(-1, func(users int64) *chain.Link {
		if users != 0 {
			return then()
		}
		return p.lock(s, func() *chain.Link {
			return p.get(s, func(b plainBucket) *chain.Link {
				i := slices.Index(b.entries, e)
				if i < 0 {
					return unlock()
				}
				return e.read(func(users int64) *chain.Link {
					if users != 0 {
						return unlock()
					}
					b.entries = slices.Delete(b.entries, i, i+1)
					return p.set(s, b, unlock)
				})
			})
		})
	})
}

// latch: P15.4.
func (e *plainEntry) latch(what int, then func() *chain.Link) *chain.Link {
	switch {
	case e == nil:
		return then()
	case what == toUnlock:
		return chain.Of(at(kindUnlock, e.obj+2, e.num), func() *chain.Link {
			e.held = false
			return then()
		})
	}
	return &chain.Link{
		Step:  at(kindLock, e.obj+2, e.num),
		Ready: func() bool { return !e.held },
		Do: func() *chain.Link {
			e.held = true
			return then()
		},
	}
}

// look: P15.5.
func (w *words) look() string {
	var all []any
	for _, p := range w.tables {
		n := 0
		for _, s := range p.stripes {
			n += len(s.bucket.entries)
		}
		all = append(all, n)
		for _, s := range p.stripes {
			all = append(all, s.bucket.slots)
		}
		all = append(all, 0)
	}
	return fmt.Sprint(all...)
}

// oneOf is what an act is of: mostly one that was told, whoever has it, and whether it is there still or not.
func oneOf[E any](told []*E, of int) *E {
	if i := of % (len(told) + 1); i < len(told) {
		return told[i]
	}
	return nil
}

// whose tells an entry by the first place at which it was told.
func whose[E any](told []*E, e *E) int { return slices.Index(told, e) }

func line(client int, what int, rest ...any) string {
	return fmt.Sprint(client, " ", nameOf(what), ": ", fmt.Sprint(rest...))
}

// act is a client's act number i, and those behind it.
func (w *words) act(client int, acts []act, i int) *chain.Link {
	if i == len(acts) {
		return nil
	}
	a := acts[i]
	write := func(rest ...any) { w.lines = append(w.lines, line(client, a.what, rest...)) }
	then := func() *chain.Link {
		write()
		return w.act(client, acts, i+1)
	}
	switch a.what {
	case toTake:
		return w.tables[a.table].take(a.key, func(e *plainEntry) *chain.Link {
			w.told = append(w.told, e)
			write(e.key, " ", e.num, " ", whose(w.told, e))
			return then()
		})
	case toDrop:
		return w.tables[a.table].drop(oneOf(w.told, a.of), then)
	case toLook:
		write(w.look())
		return then()
	}
	return oneOf(w.told, a.of).latch(a.what, then)
}

// play runs programs by the words.
func (w *words) play(programs [][]act, script []int) api.Run {
	w.lines = nil
	clients := make([]*chain.Link, len(programs))
	for i, acts := range programs {
		clients[i] = w.act(i, acts, 0)
	}
	return chain.Play(clients, script)
}

// built are the tables themselves, under the same programs.
type built struct {
	tables  []*stripe.Table
	stripes []int
	told    []*stripe.Entry
	lines   []string
}

// twins are tables and their words.
func twins(t *testing.T, world *prim.World, stripes ...int) (*built, *words) {
	t.Helper()
	b, w := &built{stripes: stripes}, &words{}
	for i, n := range stripes {
		table, e := stripe.New(world, objLock+10*i, n)
		if e != isOK {
			t.Fatalf("%d stripes: %d", n, e)
		}
		b.tables, w.tables = append(b.tables, table), append(w.tables, newPlain(objLock+10*i, n))
	}
	return b, w
}

func (b *built) play(t *testing.T, programs [][]act, script []int) api.Run {
	t.Helper()
	b.lines = nil
	var bodies []client
	for _, acts := range programs {
		bodies = append(bodies, func(c *sched.Client) {
			for _, a := range acts {
				b.act(c, a)
			}
		})
	}
	return mustRun(t, bodies, script...)
}

func (b *built) look() string {
	var all []any
	for i, table := range b.tables {
		all = append(all, table.Entries())
		for s := range b.stripes[i] + 1 {
			all = append(all, table.Slots(s))
		}
	}
	return fmt.Sprint(all...)
}

func (b *built) act(c *sched.Client, a act) {
	write := func(rest ...any) { b.lines = append(b.lines, line(c.Number(), a.what, rest...)) }
	switch a.what {
	case toTake:
		e := b.tables[a.table].Take(c, a.key)
		b.told = append(b.told, e)
		write(e.Key(), " ", e.Num(), " ", whose(b.told, e))
	case toDrop:
		b.tables[a.table].Drop(c, oneOf(b.told, a.of))
	case toLock:
		oneOf(b.told, a.of).Lock(c)
	case toUnlock:
		oneOf(b.told, a.of).Unlock(c)
	case toLook:
		write(b.look())
	}
	write()
}

// act is any, of few keys or of many.
func (d dice) act(tables, keys int) act {
	return act{
		what:  []int{toTake, toTake, toTake, toTake, toDrop, toDrop, toDrop, toDrop, toLock, toUnlock, toUnlock, toLook}[d.Intn(12)],
		table: d.Intn(tables),
		key:   fmt.Sprint("k", d.Intn(keys)),
		of:    d.Intn(1000),
	}
}

func (d dice) programs(clients, length, tables, keys int) [][]act {
	programs := make([][]act, d.Intn(clients)+1)
	for i := range programs {
		for range d.Intn(length + 1) {
			programs[i] = append(programs[i], d.act(tables, keys))
		}
	}
	return programs
}

// wantSame looks whether the tables stand as the words say.
func wantSame(t *testing.T, b *built, w *words) {
	t.Helper()
	if got, want := b.look(), w.look(); got != want {
		t.Errorf("entries and slots %s; want %s", got, want)
	}
	if len(b.told) != len(w.told) {
		t.Fatalf("%d told; want %d", len(b.told), len(w.told))
	}
	for i, e := range w.told {
		wantEntry(t, b.told[i], e.key, e.num)
	}
}

// count tells of which cases there were how many, so that a test knows that it looked at all of them.
func count(seen map[string]int, r api.Run) {
	for i, e := range r.Ends {
		if x := r.Waits[i]; e == wasStopped {
			seen[fmt.Sprint("stopped at kind ", x.Kind, " of ", x.Obj%10)]++
		}
	}
	if r.Stuck {
		seen["stuck"]++
	}
	// The steps of each client, one behind the other, by their kinds.
	for i := range r.Ends {
		var kinds strings.Builder
		for _, e := range r.Events {
			if e.Client == i {
				fmt.Fprint(&kinds, e.Step.Kind)
			}
		}
		for _, call := range []string{"3874", "3841892", "3841872", "718592", "71852", "7182"} {
			seen[call] += strings.Count(kinds.String(), call)
		}
	}
}

// P15.2 to P15.5: any calls of any clients under any script, also behind runs that were cut off in the midst of calls; the right ones, and wrong ones: Drops of what others have, of what has gone, of another table's.
func TestWords(t *testing.T) {
	d := newDice(1)
	seen := map[string]int{}
	most := 0
	for range 8000 {
		stripes := []int{d.Intn(3) + 1}
		if d.Intn(3) == 0 {
			stripes = append(stripes, d.Intn(3)+1)
		}
		keys := []int{1, 2, 3, 40}[d.Intn(4)]
		b, w := twins(t, prim.Scripted(), stripes...)
		for range d.Intn(4) + 1 {
			programs, script := d.programs(4, 14, len(stripes), keys), d.script(d.Intn(200))
			want := w.play(programs, script)
			got := b.play(t, programs, script)
			if !slices.Equal(got.Events, want.Events) || !slices.Equal(got.Ends, want.Ends) || !slices.Equal(got.Waits, want.Waits) || got.Used != want.Used || got.Stuck != want.Stuck {
				t.Fatalf("%v under %v:\n%v\nwant\n%v", programs, script, got, want)
			}
			if !slices.Equal(b.lines, w.lines) {
				t.Fatalf("%v under %v: told\n%q\nwant\n%q", programs, script, b.lines, w.lines)
			}
			wantSame(t, b, w)
			count(seen, got)
			// By nobody: a stripe that was left held comes to be free.
			acts := d.programs(1, 3, len(stripes), keys)[0]
			chain.Done(w.act(-1, acts, 0))
			for _, a := range acts {
				b.act(nil, a)
			}
			wantSame(t, b, w)
			if t.Failed() {
				t.Fatalf("%v under %v", programs, script)
			}
		}
		most = max(most, b.tables[0].Slots(0))
	}
	for _, what := range []string{
		"stopped at kind 1 of 1", "stopped at kind 2 of 1", "stopped at kind 3 of 1", "stopped at kind 4 of 1",
		"stopped at kind 8 of 2", "stopped at kind 9 of 2", "stopped at kind 1 of 3", "stopped at kind 2 of 3",
		"stopped at kind 5 of 4", "stopped at kind 7 of 4", "stuck",
		"3874", "3841892", "3841872", "718592", "71852", "7182",
	} {
		if seen[what] < 100 {
			t.Errorf("%s: %d times only", what, seen[what])
		}
	}
	if most < 8 {
		t.Errorf("at most %d slots", most)
	}
}

// With a nil client, in the real world too: one call behind the other, without steps. Of a latch only the Unlock: in the real world a Lock may wait for ever.
func TestWordsByNobody(t *testing.T) {
	d := newDice(2)
	for _, world := range worlds() {
		for range 1000 {
			stripes := []int{d.Intn(5) + 1, d.Intn(maxStripeNum) + 1}
			keys := []int{2, 10, 200}[d.Intn(3)]
			b, w := twins(t, world, stripes...)
			var acts []act
			for range 150 {
				a := d.act(2, keys)
				if a.what == toLock {
					a.what = toUnlock
				}
				acts = append(acts, a)
			}
			for _, a := range acts {
				b.act(nil, a)
			}
			chain.Done(w.act(-1, acts, 0))
			if !slices.Equal(b.lines, w.lines) {
				t.Fatalf("%v: told\n%q\nwant\n%q", acts, b.lines, w.lines)
			}
			wantSame(t, b, w)
		}
	}
}
