package model

import (
	"slices"

	"docket/api"
	"docket/cursor"
	"docket/filter"
	"docket/request"
	"docket/shape"
)

// usual is how many documents a page has, if nothing is said.
const usual = 32

// client is what is kept of one.
type client struct {
	made   int64 // ids for it
	opened int64 // cursors by it
	open   []view
}

// view is an open cursor: rest are the documents that it has not looked at, as they were when it was opened, in the order of their walk. What it tells next hangs on these alone, so that a page needs no cursor that others have used.
type view struct {
	number int64
	query  *filter.Filter
	fields *shape.Fields
	batch  int
	rest   []api.Item
}

// with is what is kept of all clients, and c of the one with that number.
func (k kept) with(number int, c client) map[int]client {
	next := make(map[int]client, len(k.clients)+1)
	for n, other := range k.clients {
		next[n] = other
	}
	next[number] = c
	return next
}

// place is where the view of that number lies in a client's list, or -1.
func (c client) place(number int64) int {
	return slices.IndexFunc(c.open, func(v view) bool { return v.number == number })
}

// beside is a state that has the same documents, but keeps c of a client.
func (s *State) beside(number int, c client) *State {
	k := s.kept
	k.clients = s.with(number, c)
	return &State{s.stamp, k}
}

func (s *State) open(number int, r api.Request) (*State, string) {
	c := s.clients[number]
	if len(c.open) == api.MaxCursors {
		return s, request.Bad(api.ErrFull, -1)
	}
	if !has(s.cat, r.In) {
		return s, request.Bad(api.ErrColl, -1)
	}
	c.opened++
	v := view{number: c.opened, batch: batchOf(r.Batch), rest: cursor.Order(s.docs.all(r.In))}
	v.query, _ = filter.Parse(r.Filter)
	v.fields, _ = shape.ParseFields(r.Fields)
	c.open = append(slices.Clone(c.open), v)
	return s.beside(number, c), Opened(v.number, s.stamp)
}

func batchOf(n int64) int {
	if n == 0 {
		return usual
	}
	return int(min(n, api.MaxBatch))
}

func (s *State) next(number int, r api.Request) (*State, string) {
	c := s.clients[number]
	at := c.place(r.Cursor)
	if at < 0 {
		return s, request.Bad(api.ErrNone, -1)
	}
	v := c.open[at]
	pages, _ := cursor.New(v.query, v.fields, v.batch)
	docs, done := pages.From(v.rest)
	v.rest = v.rest[pages.Looked():]
	c.open = slices.Clone(c.open)
	c.open[at] = v
	return s.beside(number, c), Page(docs, done)
}

func (s *State) close(number int, r api.Request) (*State, string) {
	c := s.clients[number]
	at := c.place(r.Cursor)
	if at < 0 {
		return s, request.Bad(api.ErrNone, -1)
	}
	c.open = slices.Concat(c.open[:at], c.open[at+1:])
	return s.beside(number, c), request.Good(nil)
}
