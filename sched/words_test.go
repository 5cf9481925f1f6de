package sched_test

import (
	"fmt"
	"math/big"

	"docket/api"
	"docket/sched"
)

// The chapter's words, written plainly: clients are lists of acts, which are done without goroutines, one by one; the same lists are bodies for Run.

// What an act is.
const (
	takeStep = iota
	tellNote
	change // something shared
	throw  // a panic of the client's own
)

// What the do of a step does.
const (
	noDo = iota
	doChange
	doNote
	doThrow
)

// When a step is ready.
const (
	nilReady = iota
	ifAtLeast
	ifOdd
	neverReady
)

type act struct {
	what  int
	kind  int
	ready int
	do    int
	of    int // which of the shared numbers
	by    int
}

// program is a body: first; then last, in a deferred function; then, if what goes through the body is held back, or nothing does, more.
type program struct {
	absent bool // a nil body
	first  []act
	last   []act
	holds  bool
	more   []act
}

// shared is what the clients of a run share, and what they did with it, in order.
type shared struct {
	numbers [3]int
	diary
}

func (s *shared) isReady(a act) bool {
	switch a.ready {
	case ifAtLeast:
		return s.numbers[a.of] >= a.by
	case ifOdd:
		return s.numbers[a.of]%2 != 0
	}
	return a.ready == nilReady
}

func (s *shared) change(client, picks int, a act) {
	s.numbers[a.of] += a.by
	s.add("%d, picked %d times, made number %d %d", client, picks, a.of, s.numbers[a.of])
}

func (s *shared) text(client, picks int) string {
	return fmt.Sprintf("%d.%d.%v", client, picks, s.numbers)
}

// As bodies.

func (s *shared) bodies(all []program) []client {
	var out []client
	for _, p := range all {
		if p.absent {
			out = append(out, nil)
			continue
		}
		out = append(out, func(c *sched.Client) {
			s.guarded(c, p)
			s.act(c, p.more)
		})
	}
	return out
}

func (s *shared) guarded(c *sched.Client, p program) {
	defer func() {
		if p.holds {
			recover()
		}
	}()
	defer s.act(c, p.last)
	s.act(c, p.first)
}

func (s *shared) act(c *sched.Client, acts []act) {
	for _, a := range acts {
		switch a.what {
		case takeStep:
			c.Step(step(a.kind), s.readyOf(a), s.doOf(c, a))
		case tellNote:
			c.Note(a.kind, s.text(c.Number(), c.Picks()))
		case change:
			s.change(c.Number(), c.Picks(), a)
		case throw:
			panic(a.kind)
		}
	}
}

func (s *shared) readyOf(a act) func() bool {
	if a.ready == nilReady {
		return nil
	}
	return func() bool { return s.isReady(a) }
}

func (s *shared) doOf(c *sched.Client, a act) func() {
	switch a.do {
	case doChange:
		return func() { s.change(c.Number(), c.Picks(), a) }
	case doNote:
		return func() { c.Note(-a.kind, s.text(c.Number(), c.Picks())) }
	case doThrow:
		return func() { panic(a) }
	}
	return nil
}

// By the words.

// plain is a client without a goroutine: at which act of which part of its program it stands.
type plain struct {
	program
	number  int
	part    int
	at      int
	picks   int
	thrown  bool // something goes through the body
	stopped bool
	waits   bool
	step    act
}

const partsOfAll = 3

func (p *plain) over() bool { return p.absent || p.part == partsOfAll }

func (p *plain) end() int {
	if p.stopped {
		return wasStopped
	}
	if p.thrown {
		return panicked
	}
	return hasEnded
}

func (p *plain) nextPart() {
	p.at = 0
	p.part++
	if p.part == 2 && p.thrown && !p.holds {
		p.part = partsOfAll
	} else if p.part == 2 {
		p.thrown = false
	}
}

func (p *plain) throw() {
	p.thrown = true
	p.nextPart()
}

// words is a run by the words.
type words struct {
	shared
	clients []*plain
	run     api.Run
}

func (w *words) note(p *plain, kind int) {
	if !p.stopped {
		w.run.Notes = append(w.run.Notes, api.Note{At: len(w.run.Events), Client: p.number, Kind: kind, Text: w.text(p.number, p.picks)})
	}
}

func (w *words) goOn(p *plain) {
	for !p.over() {
		acts := [partsOfAll][]act{p.first, p.last, p.more}[p.part]
		if p.at == len(acts) {
			p.nextPart()
			continue
		}
		a := acts[p.at]
		p.at++
		switch a.what {
		case takeStep:
			if !p.stopped {
				p.waits, p.step = true, a
				return
			}
			p.throw()
		case tellNote:
			w.note(p, a.kind)
		case change:
			w.change(p.number, p.picks, a)
		case throw:
			p.throw()
		}
	}
}

func (w *words) pick(p *plain) {
	w.run.Events = append(w.run.Events, api.Event{Client: p.number, Step: step(p.step.kind)})
	w.run.Used++
	p.picks++
	p.waits = false
	switch p.step.do {
	case doChange:
		w.change(p.number, p.picks, p.step)
	case doNote:
		w.note(p, -p.step.kind)
	case doThrow:
		p.throw()
	}
	w.goOn(p)
}

func (w *words) ready() []*plain {
	var out []*plain
	for _, p := range w.clients {
		if p.waits && w.isReady(p.step) {
			out = append(out, p)
		}
	}
	return out
}

// remainder is that of whole numbers without a bound: never below 0.
func remainder(e, n int) int {
	return int(new(big.Int).Mod(big.NewInt(int64(e)), big.NewInt(int64(n))).Int64())
}

// byWords: the run of these programs under this script.
func byWords(all []program, script []int) *words {
	w := &words{}
	for i, p := range all {
		w.clients = append(w.clients, &plain{program: p, number: i})
	}
	for _, p := range w.clients {
		w.goOn(p)
	}
	for _, e := range script {
		open := w.ready()
		if len(open) == 0 {
			break
		}
		w.pick(open[remainder(e, len(open))])
	}
	w.run.Stuck = len(w.ready()) == 0
	waiting := 0
	for _, p := range w.clients {
		var at api.Step
		if p.waits {
			waiting++
			at = step(p.step.kind)
			p.waits, p.stopped = false, true
			p.throw()
			w.goOn(p)
		}
		w.run.Ends = append(w.run.Ends, p.end())
		w.run.Waits = append(w.run.Waits, at)
	}
	w.run.Stuck = w.run.Stuck && waiting > 0
	return w
}

// Programs by dice.

func (d dice) act() act {
	a := act{what: tellNote, kind: 1 + d.Intn(6), of: d.Intn(3), by: d.Intn(5) - 1}
	switch d.Intn(12) {
	case 0:
		a.what = tellNote
	case 1, 2:
		a.what = change
	case 3:
		a.what = []int{throw, change, change}[d.Intn(3)]
	default:
		a.what = takeStep
		a.ready = []int{nilReady, nilReady, nilReady, nilReady, ifAtLeast, ifOdd}[d.Intn(6)]
		a.do = []int{noDo, doChange, doChange, doNote}[d.Intn(4)]
	}
	if d.Intn(60) == 0 {
		a.do = doThrow
	}
	if d.Intn(40) == 0 {
		a.ready = neverReady
	}
	return a
}

func (d dice) acts(n int) []act {
	var out []act
	for range d.Intn(n + 1) {
		out = append(out, d.act())
	}
	return out
}

func (d dice) program() program {
	if d.Intn(30) == 0 {
		return program{absent: true}
	}
	p := program{first: d.acts(8)}
	if d.Intn(3) == 0 {
		p.last = d.acts(3)
	}
	if d.Intn(4) == 0 {
		p.holds, p.more = true, d.acts(3)
	} else if d.Intn(2) == 0 {
		p.more = d.acts(2)
	}
	return p
}

func (d dice) programs(most int) []program {
	var out []program
	for range d.Intn(most + 1) {
		out = append(out, d.program())
	}
	return out
}
