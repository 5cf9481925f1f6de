package model

import (
	"cmp"
	"slices"

	"docket/api"
	"docket/catalog"
	"docket/ident"
	"docket/jsonval"
	"docket/request"
	"docket/txn"
)

// place is where a document lies.
type place struct {
	in string
	id string
}

func (p place) compare(q place) int {
	return cmp.Or(cmp.Compare(p.in, q.in), cmp.Compare(p.id, q.id))
}

// desk is what documents are changed on: as they were, as they are by now, and the catalog that goes on. Their Keys are ids.
type desk struct {
	cat *catalog.Catalog
	was map[place]api.Item
	now map[place]api.Item
}

// deskOf lays items on a desk, whose Keys name their collections too.
func deskOf(c *catalog.Catalog, items []api.Item) *desk {
	d := &desk{cat: c, was: map[place]api.Item{}, now: map[place]api.Item{}}
	for _, x := range items {
		in, id, _ := ident.Part(x.Key)
		x.Key = id
		d.was[place{in, id}] = x
		d.now[place{in, id}] = x
	}
	return d
}

// Item is the document as it is by now.
func (d *desk) Item(in, id string) (api.Item, bool, api.Errno) {
	if !has(d.cat, in) {
		return api.Item{}, false, api.ErrColl
	}
	x, there := d.now[place{in, id}]
	return x, there, api.OK
}

// Commit lays now in the place of was, if the catalog takes it.
func (d *desk) Commit(in string, was, now []api.Item) api.Errno {
	c, e := d.cat.Commit(in, was, now)
	if e != api.OK {
		return e
	}
	d.cat = c
	for _, x := range was {
		delete(d.now, place{in, x.Key})
	}
	for _, x := range now {
		d.now[place{in, x.Key}] = x
	}
	return api.OK
}

// places are those of all documents that were there or are, by rising collections, and ids.
func (d *desk) places() []place {
	var l []place
	for p := range d.was {
		l = append(l, p)
	}
	for p := range d.now {
		l = append(l, p)
	}
	slices.SortFunc(l, place.compare)
	return slices.Compact(l)
}

// edit is what has become of a document, and whether that is other than what it was.
func (d *desk) edit(p place) (api.Edit, bool) {
	was, had := d.was[p]
	now, has := d.now[p]
	switch {
	case !has:
		return api.Edit{Item: api.Item{Key: p.id}, Gone: true}, had
	case !had:
		return api.Edit{Item: now}, true
	}
	return api.Edit{Item: now}, now.Version != was.Version || !jsonval.Equal(now.Value, was.Value)
}

// moves are all edits, by their collections.
func (d *desk) moves() []api.Moves {
	var l []api.Moves
	for _, p := range d.places() {
		x, other := d.edit(p)
		if !other {
			continue
		}
		if len(l) == 0 || l[len(l)-1].In != p.in {
			l = append(l, api.Moves{In: p.in})
		}
		last := &l[len(l)-1]
		last.Edits = append(last.Edits, x)
	}
	return l
}

// effect is that of what was done on the desk.
func (d *desk) effect(changes []api.Change, reply string) Effect {
	return Effect{Cat: d.cat, Edits: d.moves(), Changes: changes, Reply: reply}
}

func changeOne(d *desk, r api.Request, stamp int64) Effect {
	if r.Op == api.OpInsert && r.Id == "" {
		return refused(api.ErrMade, -1)
	}
	was, there, e := d.Item(r.In, r.Id)
	if e != api.OK {
		return refused(e, -1)
	}
	o := txn.One(r, was, there, stamp)
	if o.E != api.OK {
		return refused(o.E, -1)
	}
	if e := d.Commit(r.In, itemIf(o.There, o.Was), itemIf(o.Is, o.Now)); e != api.OK {
		return refused(e, -1)
	}
	var changes []api.Change
	if kind := txn.Kind(o); kind != 0 {
		changes = []api.Change{{Stamp: stamp, In: r.In, Id: r.Id, Kind: kind}}
	}
	names, items := txn.Told(r, o, stamp)
	return d.effect(changes, request.Good(names, items...))
}

func changeSeveral(d *desk, r api.Request, stamp int64) Effect {
	results, changes, e, at := txn.All(d, r.Steps, r.Mode, stamp)
	if e != api.OK {
		return refused(e, at)
	}
	reply := request.Good([]string{"stamp", "results"}, jsonval.Of(stamp), jsonval.Listed(results...))
	return d.effect(changes, reply)
}

// arranged is the effect of a request that changes no document.
func arranged(c *catalog.Catalog, e api.Errno, stamp int64) Effect {
	if e != api.OK {
		return refused(e, -1)
	}
	return Effect{Cat: c, Reply: request.Good([]string{"stamp"}, jsonval.Of(stamp))}
}

func refused(e api.Errno, at int) Effect { return Effect{Reply: request.Bad(e, at)} }

func itemIf(there bool, x api.Item) []api.Item {
	if !there {
		return nil
	}
	return []api.Item{x}
}
