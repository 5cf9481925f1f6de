package docstore

import (
	"docket/api"
	"docket/model"
	"docket/trie"
)

// read: P24.3.
func (k *call) read(r api.Request) (string, int64) {
	at, items := k.wanted(r)
	return model.Read(at.Catalog, r, at.stamp, items, at.Log), at.stamp
}

// wanted are the documents that a read needs, of the root that it pins for that.
func (k *call) wanted(r api.Request) (root, []api.Item) {
	at := k.keeper.Pin(k.by, k.number)
	defer k.keeper.Unpin(k.by, k.number)
	ids, all := model.Wanted(at.Catalog, r)
	if all {
		return at, k.all(at, r.In)
	}
	items, _ := trie.Some(k.space(), at.top(r.In), ids)
	return at, items
}

// all are the documents of a collection, at a root whose nodes nobody frees meanwhile.
func (k *call) all(at root, in string) []api.Item {
	items, _ := trie.All(k.space(), at.top(in))
	return items
}
