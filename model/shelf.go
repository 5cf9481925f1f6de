package model

import (
	"slices"

	"docket/api"
	"docket/ident"
)

// shelf is all documents, by their collections; one without documents is not there. It is never written once it is made.
type shelf map[string]*pile

// piles: into so many maps the documents of a collection are dealt out, so that a change copies one of them, not all.
const piles = api.MaxStripes

// pile is the documents of a collection, by their ids, which are their Keys.
type pile struct {
	count int
	parts [piles]map[string]api.Item
}

// find is a document of a collection.
func (l shelf) find(in, id string) (api.Item, bool) {
	p := l[in]
	if p == nil {
		return api.Item{}, false
	}
	x, there := p.parts[ident.Stripe(id, piles)][id]
	return x, there
}

// all is all documents of a collection, by rising ids.
func (l shelf) all(in string) []api.Item {
	p := l[in]
	if p == nil {
		return nil
	}
	items := make([]api.Item, 0, p.count)
	for _, part := range p.parts {
		for _, x := range part {
			items = append(items, x)
		}
	}
	slices.SortFunc(items, byKey)
	return items
}

// behind is another shelf, with the documents as they are behind some changes.
func (l shelf) behind(moves []api.Moves) shelf {
	next := make(shelf, len(l)+len(moves))
	for in, p := range l {
		next[in] = p
	}
	for _, m := range moves {
		p := next[m.In].behind(m.Edits)
		next[m.In] = p
		if p.count == 0 {
			delete(next, m.In)
		}
	}
	return next
}

func (p *pile) behind(edits []api.Edit) *pile {
	var next pile
	if p != nil {
		next = *p
	}
	for _, x := range edits {
		at := ident.Stripe(x.Item.Key, piles)
		old := next.parts[at]
		next.parts[at] = edited(old, x)
		next.count += len(next.parts[at]) - len(old)
	}
	return &next
}

func edited(part map[string]api.Item, x api.Edit) map[string]api.Item {
	next := make(map[string]api.Item, len(part)+1)
	for id, y := range part {
		next[id] = y
	}
	next[x.Item.Key] = x.Item
	if x.Gone {
		delete(next, x.Item.Key)
	}
	return next
}
