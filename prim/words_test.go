package prim_test

import (
	"fmt"

	"docket/api"
	"docket/prim"
	"docket/sched"
)

// The chapter's table, written plainly: programs are lists of acts, which are done one by one without clients; the same lists are bodies for sched.Run, over things of prim.

// What an act is a call of.
const (
	lockMutex = iota
	unlockMutex
	lockRW
	unlockRW
	rlockRW
	runlockRW
	addCounter
	readCounter
	loadAtomic
	storeAtomic
	getCell
	setCell
	allActs
)

// several is how many things there are of each sort.
const several = 2

type act struct {
	what int
	of   int   // which of the things of that sort
	by   int64 // what is added or laid there
}

// The objs of the things by their sorts; their nums are their places and ten.
const (
	objMutex = iota + 21
	objRW
	objCounter
	objAtomic
	objCell
)

func (a act) step() api.Step {
	kind := [allActs]int{kindLock, kindUnlock, kindLock, kindUnlock, kindRLock, kindRUnlock, kindAdd, kindLoad, kindLoad, kindStore, kindGet, kindSet}[a.what]
	obj := [allActs]int{objMutex, objMutex, objRW, objRW, objRW, objRW, objCounter, objCounter, objAtomic, objAtomic, objCell, objCell}[a.what]
	return api.Step{Kind: kind, Obj: obj, Num: a.of + 10}
}

// things are those of a world.
type things struct {
	mutexes  [several]*prim.Mutex
	rws      [several]*prim.RWMutex
	counters [several]*prim.Counter
	atomics  [several]*prim.Atomic[int64]
	cells    [several]*prim.Cell[string]
}

func newThings(w *prim.World) *things {
	s := &things{}
	for i := range several {
		s.mutexes[i] = w.Mutex(objMutex, i+10)
		s.rws[i] = w.RWMutex(objRW, i+10)
		s.counters[i] = w.Counter(objCounter, i+10, 0)
		s.atomics[i] = prim.NewAtomic(w, objAtomic, i+10, int64(0))
		s.cells[i] = prim.NewCell(w, objCell, i+10, "0")
	}
	return s
}

// act makes a call, and tells what it answered.
func (s *things) act(c *sched.Client, a act) string {
	switch a.what {
	case lockMutex:
		s.mutexes[a.of].Lock(c)
	case unlockMutex:
		s.mutexes[a.of].Unlock(c)
	case lockRW:
		s.rws[a.of].Lock(c)
	case unlockRW:
		s.rws[a.of].Unlock(c)
	case rlockRW:
		s.rws[a.of].RLock(c)
	case runlockRW:
		s.rws[a.of].RUnlock(c)
	case addCounter:
		return fmt.Sprint(s.counters[a.of].Add(c, a.by))
	case readCounter:
		return fmt.Sprint(s.counters[a.of].Read(c))
	case loadAtomic:
		return fmt.Sprint(s.atomics[a.of].Load(c))
	case storeAtomic:
		s.atomics[a.of].Store(c, a.by)
	case getCell:
		return s.cells[a.of].Get(c)
	case setCell:
		s.cells[a.of].Set(c, fmt.Sprint(a.by))
	}
	return ""
}

// words are the same things by the words.
type words struct {
	mutexes  [several]bool
	rws      [several]state
	counters [several]int64
	atomics  [several]int64
	cells    [several]int64
}

func (s *words) ready(a act) bool {
	switch a.what {
	case lockMutex:
		return !s.mutexes[a.of]
	case lockRW:
		return !s.rws[a.of].held && s.rws[a.of].readers == 0
	case rlockRW:
		return !s.rws[a.of].held
	}
	return true
}

func (s *words) act(a act) string {
	switch a.what {
	case lockMutex:
		s.mutexes[a.of] = true
	case unlockMutex:
		s.mutexes[a.of] = false
	case lockRW:
		s.rws[a.of].held = true
	case unlockRW:
		s.rws[a.of].held = false
	case rlockRW:
		s.rws[a.of].readers++
	case runlockRW:
		if s.rws[a.of].readers > 0 {
			s.rws[a.of].readers--
		}
	case addCounter:
		s.counters[a.of] += a.by
		return fmt.Sprint(s.counters[a.of])
	case readCounter:
		return fmt.Sprint(s.counters[a.of])
	case loadAtomic:
		return fmt.Sprint(s.atomics[a.of])
	case storeAtomic:
		s.atomics[a.of] = a.by
	case getCell:
		return fmt.Sprint(s.cells[a.of])
	case setCell:
		s.cells[a.of] = a.by
	}
	return ""
}

// play is a run of programs over things of prim, with what the calls answered.
func (s *things) play(programs [][]act, script []int) (api.Run, []string, api.Errno) {
	var d diary
	var bodies []client
	for _, p := range programs {
		bodies = append(bodies, func(c *sched.Client) {
			for _, a := range p {
				d.add("%d: %s", c.Number(), s.act(c, a))
			}
		})
	}
	r, e := sched.Run(bodies, script)
	return r, d.lines, e
}

// play is the run of the same by the words.
func (s *words) play(programs [][]act, script []int) (api.Run, []string) {
	var d diary
	r := api.Run{Ends: make([]int, len(programs)), Waits: make([]api.Step, len(programs))}
	at := make([]int, len(programs))
	for {
		var open []int
		waiting := 0
		for i, p := range programs {
			if at[i] == len(p) {
				continue
			}
			waiting++
			if s.ready(p[at[i]]) {
				open = append(open, i)
			}
		}
		r.Stuck = len(open) == 0 && waiting > 0
		if len(open) == 0 || r.Used == len(script) {
			break
		}
		place := script[r.Used] % len(open)
		if place < 0 {
			place += len(open)
		}
		i := open[place]
		a := programs[i][at[i]]
		at[i]++
		r.Used++
		r.Events = append(r.Events, api.Event{Client: i, Step: a.step()})
		d.add("%d: %s", i, s.act(a))
	}
	for i, p := range programs {
		if at[i] == len(p) {
			r.Ends[i] = hasEnded
		} else {
			r.Waits[i] = p[at[i]].step()
		}
	}
	return r, d.lines
}

func (d dice) act() act {
	a := act{what: d.Intn(allActs), of: d.Intn(several), by: int64(d.Intn(9) - 3)}
	switch d.Intn(12) {
	case 0:
		a.by = int64(d.Uint64())
	case 1, 2, 3: // so that locks come to be free again
		a.what = []int{unlockMutex, unlockRW, runlockRW}[d.Intn(3)]
	}
	return a
}

func (d dice) acts(most int) []act {
	var out []act
	for range d.Intn(most + 1) {
		out = append(out, d.act())
	}
	return out
}

func (d dice) programs(clients, most int) [][]act {
	var out [][]act
	for range d.Intn(clients + 1) {
		out = append(out, d.acts(most))
	}
	return out
}
