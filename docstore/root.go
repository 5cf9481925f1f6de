package docstore

import (
	"slices"
	"strings"

	"docket/api"
	"docket/catalog"
	"docket/ident"
	"docket/trie"
	"docket/watch"
)

// root is a state that was published. Neither it nor what it has is written once it is made.
type root struct {
	stamp int64
	*catalog.Catalog
	*watch.Log
}

// Stamp is what the keeper asks a root.
func (r root) Stamp() int64 { return r.stamp }

// top is that of a collection's tree: the zero Ref, the top of nothing, also where there is no such collection.
func (r root) top(in string) api.Ref {
	k, _ := r.Coll(in)
	return k.Top
}

// colls is what each collection is, by rising names.
func (r root) colls() []api.Coll {
	var l []api.Coll
	for _, in := range r.Names() {
		k, _ := r.Coll(in)
		l = append(l, k)
	}
	return l
}

// docs are all documents of a root. Keys are sorted whole: what parts a collection from an id is not the least of all bytes that a name may have.
func (s *Store) docs(r root) []api.Item {
	var all []api.Item
	for _, in := range r.Names() {
		items, _ := trie.All(trie.Of(s.nodes, nil), r.top(in))
		for _, x := range items {
			x.Key = ident.Join(in, x.Key)
			all = append(all, x)
		}
	}
	slices.SortFunc(all, func(a, b api.Item) int { return strings.Compare(a.Key, b.Key) })
	return all
}

// reached is how many nodes a root has.
func (s *Store) reached(r root) int {
	n := 0
	for _, in := range r.Names() {
		refs, _ := trie.Refs(trie.Of(s.nodes, nil), r.top(in))
		n += len(refs)
	}
	return n
}
