package model

import (
	"slices"
	"strings"

	"docket/api"
	"docket/catalog"
	"docket/ident"
	"docket/request"
	"docket/watch"
)

// State is the whole store, as it means. Neither it nor what it has is written once it is made.
type State struct {
	stamp int64
	kept
}

// kept is what a state shares with the next one, but for what the step between them changes.
type kept struct {
	cat     *catalog.Catalog
	docs    shelf
	log     *watch.Log
	clients map[int]client // only those for which there is something to keep
}

// New: P23.7.
func New(keep int) (*State, api.Errno) {
	log, e := watch.New(keep)
	if e != api.OK {
		return nil, e
	}
	return &State{kept: kept{cat: catalog.New(), log: log}}, api.OK
}

// Step: P23.8.
func (s *State) Step(client int, raw string) (*State, string) {
	if s == nil {
		return nil, ""
	}
	r, e, at := request.Parse(raw)
	if e != api.OK {
		return s, request.Bad(e, at)
	}
	switch r.Op {
	case api.OpOpen:
		return s.open(client, r)
	case api.OpNext:
		return s.next(client, r)
	case api.OpClose:
		return s.close(client, r)
	}
	if request.Stamped(r.Op) {
		return s.change(client, r)
	}
	return s, Read(s.cat, r, s.stamp, s.wanted(r), s.log)
}

// wanted are the documents that a read needs.
func (s *State) wanted(r api.Request) []api.Item {
	ids, all := Wanted(s.cat, r)
	if all {
		return s.docs.all(r.In)
	}
	var items []api.Item
	for _, id := range ids {
		if x, there := s.docs.find(r.In, id); there {
			items = append(items, x)
		}
	}
	return items
}

// change counts an id that was made also where the request is refused then.
func (s *State) change(number int, r api.Request) (*State, string) {
	k, c := s.kept, s.clients[number]
	named := Named(r, number, c.made)
	if named.Id != r.Id {
		c.made++
		k.clients = s.with(number, c)
	}
	if s.stamp == api.MaxStamp {
		return &State{s.stamp, k}, request.Bad(api.ErrStamps, -1)
	}
	stamp := s.stamp + 1
	x := Apply(s.cat, named, s.touched(named), stamp)
	if x.Cat != nil {
		k.cat, k.docs, k.log = x.Cat, s.docs.behind(x.Edits), s.log.With(stamp, x.Changes...)
	}
	return &State{stamp, k}, x.Reply
}

// touched are the documents that a change needs: those that it may change, with their whole keys; for an index all of the collection, with their ids.
func (s *State) touched(r api.Request) []api.Item {
	if r.Op == api.OpIndex {
		return s.docs.all(r.In)
	}
	var items []api.Item
	for _, key := range Keys(r) {
		in, id, _ := ident.Part(key)
		if x, there := s.docs.find(in, id); there {
			x.Key = key
			items = append(items, x)
		}
	}
	return items
}

// Skip: P23.9.
func (s *State) Skip() *State {
	if s == nil || s.stamp == api.MaxStamp {
		return s
	}
	return &State{s.stamp + 1, s.kept}
}

// Stamp: P23.9.
func (s *State) Stamp() int64 {
	if s == nil {
		return 0
	}
	return s.stamp
}

// Docs: P23.9. Keys are sorted whole: what parts a collection from an id is not the least of all bytes that a name may have.
func (s *State) Docs() []api.Item {
	if s == nil {
		return nil
	}
	var items []api.Item
	for in := range s.docs {
		for _, x := range s.docs.all(in) {
			x.Key = ident.Join(in, x.Key)
			items = append(items, x)
		}
	}
	slices.SortFunc(items, byKey)
	return items
}

func byKey(a, b api.Item) int { return strings.Compare(a.Key, b.Key) }

// Colls: P23.9.
func (s *State) Colls() []api.Coll {
	if s == nil {
		return nil
	}
	var l []api.Coll
	for _, name := range s.cat.Names() {
		k, _ := s.cat.Coll(name)
		l = append(l, k)
	}
	return l
}
