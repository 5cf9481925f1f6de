package trie

import (
	"slices"

	"docket/api"
	"docket/heap"
	"docket/sched"
)

// view is a heap's nodes, as one client sees them. A node's items are copied on their way in and out: whoever has a list of them may write into it, and the node stays what it is.
type view struct {
	nodes  *heap.Heap[api.Node]
	client *sched.Client
}

func (v view) Get(r api.Ref) (api.Node, bool) {
	n, there := v.nodes.Get(v.client, r)
	n.Items = slices.Clone(n.Items)
	return n, there
}

func (v view) Alloc(n api.Node) (api.Ref, api.Errno) {
	n.Items = slices.Clone(n.Items)
	return v.nodes.Alloc(v.client, n)
}

// counted is a space, and how many nodes one call has got of it.
type counted struct {
	Space
	got int
}

// counting begins to count. No space at all is taken as one without a heap: it has no nodes.
func counting(s Space) *counted {
	if s == nil {
		s = Of(nil, nil)
	}
	return &counted{Space: s}
}

// node gets what stands at a level of a tree.
func (c *counted) node(r api.Ref, level int) (api.Node, api.Errno) {
	if c.got == api.MaxNodes {
		return api.Node{}, api.ErrLost
	}
	c.got++
	return c.again(r, level)
}

// again gets a node that was got, and counted, at this place of the tree before: so a tree of MaxNodes nodes is not lost where some of them are got twice.
func (c *counted) again(r api.Ref, level int) (api.Node, api.Errno) {
	n, there := c.Get(r)
	if !there || !n.Leaf && level >= api.Levels {
		return api.Node{}, api.ErrLost
	}
	return n, api.OK
}
