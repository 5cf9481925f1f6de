package docstore

import (
	"slices"

	"docket/api"
	"docket/request"
	"docket/sched"
)

// play is a run of a store's clients, and how the store stands behind it.
func (s *Store) play(calls [][]string, script []int) (api.Played, api.Errno) {
	if len(calls) != len(s.clients) || anyTooLong(calls) {
		return api.Played{}, api.ErrArg
	}
	r, e := sched.Run(s.bodies(calls), script)
	if e != api.OK {
		return api.Played{}, e
	}
	return api.Played{Run: r, Calls: callsOf(r), End: s.End()}, api.OK
}

func anyTooLong(calls [][]string) bool {
	return slices.ContainsFunc(calls, func(l []string) bool { return len(l) > api.MaxCalls })
}

// bodies are the clients of a run: each makes its calls, one behind the other.
func (s *Store) bodies(calls [][]string) []func(*sched.Client) {
	var l []func(*sched.Client)
	for n, raws := range calls {
		l = append(l, func(c *sched.Client) {
			for _, raw := range raws {
				s.Call(c, n, raw)
			}
		})
	}
	return l
}

// ledger is the calls of a run, as far as its events have been gone over.
type ledger struct {
	calls  []api.Call
	notes  []api.Note // those that lie behind these events
	stores int64      // of roots
	now    [api.MaxClients]entry
}

// entry is what is known of a client's last call.
type entry struct {
	place   int  // in the ledger
	changes bool // it has its point where it publishes
	loads   int  // of the root
	last    int  // the number of the last of these
}

func callsOf(r api.Run) []api.Call {
	l := ledger{notes: r.Notes}
	for at, x := range r.Events {
		l.enter(at, x)
	}
	return l.calls
}

func (l *ledger) enter(at int, x api.Event) {
	load := api.Step{Kind: api.StepLoad, Obj: api.ObjKeeper}
	store := api.Step{Kind: api.StepStore, Obj: api.ObjKeeper}
	switch {
	case x.Step.Kind == api.StepCall:
		l.begin(at, x.Client, l.note())
	case x.Step.Kind == api.StepReturn:
		l.end(at, x.Client, l.note())
	case x.Step == load:
		l.load(at, x.Client)
	case x.Step == store:
		l.store(at, x.Client)
	}
}

// note is the next one's text. Right behind each event with which a call begins or ends there is one, and there are no others.
func (l *ledger) note() string {
	text := l.notes[0].Text
	l.notes = l.notes[1:]
	return text
}

func (l *ledger) begin(at, client int, raw string) {
	r, e, _ := request.Parse(raw)
	l.now[client] = entry{place: len(l.calls), changes: e == api.OK && request.Stamped(r.Op)}
	l.calls = append(l.calls, api.Call{Client: client, Raw: raw, Stamp: noPoint, Began: at, Point: -1, Ended: -1})
}

// point lays a client's point at an event.
func (l *ledger) point(at, client int) {
	c := &l.calls[l.now[client].place]
	c.Point, c.Stamp = at, l.stores
}

func (l *ledger) load(at, client int) {
	x := &l.now[client]
	x.loads, x.last = x.loads+1, at
	if !x.changes && x.loads == 2 {
		l.point(at, client)
	}
}

func (l *ledger) store(at, client int) {
	l.stores++
	l.point(at, client)
}

func (l *ledger) end(at, client int, reply string) {
	x := l.now[client]
	if reply == bad(api.ErrStamps) {
		l.point(x.last, client)
	}
	c := &l.calls[x.place]
	c.Ended, c.Reply = at, reply
}
