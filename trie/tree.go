package trie

import "docket/api"

// tree is a new one that does not lie in a space yet: its node with the kids that stay, and the new kids that come into their places. One of no items is a leaf without any, here alone: it is not laid down.
type tree struct {
	node api.Node
	made [ways]*tree
}

// treeOf is the tree of items, which rise, at a level.
func treeOf(items []api.Item, level int) *tree {
	var grow func(marks []mark, level int) *tree
	grow = func(marks []mark, level int) *tree {
		if len(marks) <= api.MaxLeaf || level >= api.Levels {
			own := make([]api.Item, len(marks))
			for i, m := range marks {
				own[i] = items[m.at]
			}
			return leafOf(own)
		}
		t := &tree{node: api.Node{Count: len(marks)}}
		for digit, part := range parts(marks, level) {
			if len(part) > 0 {
				t.made[digit] = grow(part, level+1)
			}
		}
		return t
	}
	return grow(marksOf(len(items), func(i int) string { return items[i].Key }), level)
}

// leafOf keeps the list: it must be nobody else's.
func leafOf(items []api.Item) *tree {
	return &tree{node: api.Node{Leaf: true, Count: len(items), Items: items}}
}

func branchOf(kids [ways]fate, count int) *tree {
	t := &tree{node: api.Node{Count: count}}
	for digit, kid := range kids {
		t.node.Kids[digit], t.made[digit] = kid.ref, kid.made
	}
	return t
}

// items are those of what is new in it. In a tree that is right nobody asks this of a branch.
func (t *tree) items() []api.Item {
	if t.node.Leaf {
		return t.node.Items
	}
	var all []api.Item
	for _, kid := range t.made {
		if kid != nil {
			all = append(all, kid.items()...)
		}
	}
	return all
}

// lay lays it down, the new kids ahead of the node itself.
func (t *tree) lay(s Space) (api.Ref, api.Errno) {
	if t.node.Leaf && t.node.Count == 0 {
		return api.Ref{}, api.OK
	}
	n := t.node
	for digit, kid := range t.made {
		if kid == nil {
			continue
		}
		r, e := kid.lay(s)
		if e != api.OK {
			return api.Ref{}, e
		}
		n.Kids[digit] = r
	}
	return s.Alloc(n)
}
