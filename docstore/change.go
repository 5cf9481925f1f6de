package docstore

import (
	"slices"

	"docket/api"
	"docket/ident"
	"docket/model"
	"docket/sched"
	"docket/stripe"
	"docket/trie"
)

// change: P24.5. With the latches of its documents held nobody else changes them: so they are looked for ahead of the commit lock, and are the same at the newest root.
func (k *call) change(r api.Request) (string, int64) {
	named := model.Named(r, k.number, k.made)
	made := k.made
	if named.Id != r.Id {
		k.made++
	}
	keys := model.Keys(named)
	defer k.latch(keys)()
	found := k.found(keys)
	defer k.hold()(k.by)
	reply, stamp, e := k.publish(named, found)
	if e == api.ErrNodes {
		k.made = made
	}
	return reply, stamp
}

// latched is the latches that a call holds, by rising keys.
type latched struct {
	*call
	entries []*stripe.Entry
}

// latch takes the latches of some keys, which rise, and tells what gives them back.
func (k *call) latch(keys []string) func() {
	l := latched{call: k}
	for _, key := range keys {
		e := k.latches.Take(k.by, key)
		e.Lock(k.by)
		l.entries = append(l.entries, e)
	}
	return l.release
}

func (l latched) release() {
	for _, e := range l.entries {
		e.Unlock(l.by)
		l.latches.Drop(l.by, e)
	}
}

// hold takes the commit lock, and tells what gives it back.
func (k *call) hold() func(*sched.Client) {
	k.commit.Lock(k.by)
	return k.commit.Unlock
}

// found are the documents of some keys that are there, with their whole keys.
func (k *call) found(keys []string) []api.Item {
	if len(keys) == 0 {
		return nil
	}
	at := k.keeper.Pin(k.by, k.number)
	defer k.keeper.Unpin(k.by, k.number)
	var items []api.Item
	for _, key := range keys {
		in, id, _ := ident.Part(key)
		if x, there, _ := trie.Find(k.space(), at.top(in), id); there {
			x.Key = key
			items = append(items, x)
		}
	}
	return items
}

// publish makes the newest root into the next one, under the commit lock: a change that is refused does so too.
func (k *call) publish(r api.Request, found []api.Item) (string, int64, api.Errno) {
	last := k.keeper.Root(k.by)
	if last.stamp == api.MaxStamp {
		return bad(api.ErrStamps), last.stamp, api.ErrStamps
	}
	if r.Op == api.OpIndex {
		found = k.all(last, r.In)
	}
	next := last
	next.stamp++
	x := model.Apply(last.Catalog, r, found, next.stamp)
	retired, e := k.lay(&next, x)
	if e != api.OK {
		x.Reply = bad(e)
	}
	k.keeper.Publish(k.by, next, retired)
	return x.Reply, next.stamp, e
}

// lay makes a root what the effect says, and tells which nodes it does not need any more. Where the heap has no room the root stays what it is, and so does the heap.
func (k *call) lay(next *root, x model.Effect) ([]api.Ref, api.Errno) {
	if x.Cat == nil {
		return nil, api.OK
	}
	in := growing{Space: k.space()}
	cat := x.Cat
	var retired []api.Ref
	for _, m := range x.Edits {
		top, gone, e := trie.Change(&in, next.top(m.In), m.Edits)
		if e != api.OK {
			k.free(in.made)
			return nil, api.ErrNodes
		}
		cat, retired = cat.Moved(m.In, top), slices.Concat(retired, gone)
	}
	next.Catalog, next.Log = cat, next.With(next.stamp, x.Changes...)
	return retired, api.OK
}

func (k *call) free(refs []api.Ref) {
	for _, r := range refs {
		k.nodes.Free(k.by, r)
	}
}

// growing is a space, and the nodes that were allocated in it.
type growing struct {
	trie.Space
	made []api.Ref
}

func (g *growing) Alloc(n api.Node) (api.Ref, api.Errno) {
	r, e := g.Space.Alloc(n)
	if e == api.OK {
		g.made = append(g.made, r)
	}
	return r, e
}
