package cursor

import (
	"docket/api"
	"docket/trie"
)

// page is one under way, with the cursor as it becomes: the cursor itself stays what it was until the page has come to its end.
type page struct {
	Cursor
	docs   []api.Doc
	barren int // how many nodes were got since an item was looked at
}

func (p *page) full() bool { return len(p.docs) == p.batch }

// look looks at items in the order of the walk, from behind the one that was looked at last, until the page is full.
func (p *page) look(items []api.Item) {
	l := placesOf(items)
fill:
	for _, i := range l.order() {
		switch {
		case p.full():
			break fill
		case l[i].compare(p.last) <= 0:
			continue
		}
		p.looked, p.last, p.barren = p.looked+1, l[i], 0
		if x := items[i]; p.query.Match(x.Value) {
			p.docs = append(p.docs, api.Doc{Id: x.Key, Version: x.Version, Value: p.fields.Apply(x.Value)})
		}
	}
}

// walk looks at the items of a tree, and gets no node that the page does not need.
func (p *page) walk(s trie.Space, top api.Ref) api.Errno {
	from := p.last
	var down func(r api.Ref, level int, onWay bool) api.Errno
	down = func(r api.Ref, level int, onWay bool) api.Errno {
		if r == (api.Ref{}) {
			return api.OK
		}
		n, e := p.node(s, r, level)
		if e != api.OK {
			return e
		}
		if n.Leaf {
			p.look(n.Items)
			return api.OK
		}
		first := 0
		if onWay {
			first = from.digit(level)
		}
		for digit := first; digit < ways && !p.full(); digit++ {
			if e := down(n.Kids[digit], level+1, onWay && digit == first); e != api.OK {
				return e
			}
		}
		return api.OK
	}
	return down(top, 0, true)
}

// node gets what stands at a level of a tree. In a right tree an item follows within a few nodes: one that goes on without any is given up, as it may lead to the same nodes again and again.
func (p *page) node(s trie.Space, r api.Ref, level int) (api.Node, api.Errno) {
	if s == nil || p.barren == api.MaxNodes {
		return api.Node{}, api.ErrLost
	}
	p.barren++
	n, there := s.Get(r)
	if !there || !n.Leaf && level >= api.Levels {
		return api.Node{}, api.ErrLost
	}
	return n, api.OK
}
