package trie

import "docket/api"

// change is a Change under way.
type change struct {
	*counted
	edits   []api.Edit
	retired []api.Ref
}

// fate is what becomes of a tree.
type fate struct {
	ref  api.Ref // where it lies, if it stays
	seen bool    // if it stays: whether its node was got
	made *tree   // what comes in its place, if it does not stay
	had  int     // how many items it had, if it does not stay
}

func (f fate) stays() bool { return f.made == nil }

// goDown tells what becomes of a tree at a level, by the edits that are meant for it.
type goDown func(r api.Ref, marks []mark, level int) (fate, api.Errno)

func (c *change) fateOf(top api.Ref, marks []mark) (fate, api.Errno) {
	var down goDown
	down = func(r api.Ref, marks []mark, level int) (fate, api.Errno) {
		if len(marks) == 0 {
			return fate{ref: r}, api.OK
		}
		if r == (api.Ref{}) {
			return c.ofNothing(marks, level), api.OK
		}
		n, e := c.node(r, level)
		if e != api.OK {
			return fate{}, e
		}
		if n.Leaf {
			return c.ofLeaf(r, n, marks, level), api.OK
		}
		return c.ofBranch(r, n, marks, level, down)
	}
	return down(top, marks, 0)
}

func (c *change) ofNothing(marks []mark, level int) fate {
	laid := c.laid(marks)
	if len(laid) == 0 {
		return fate{}
	}
	return fate{made: treeOf(laid, level)}
}

func (c *change) ofLeaf(r api.Ref, n api.Node, marks []mark, level int) fate {
	laid, rest := c.laid(marks), without(n.Items, marks)
	if len(laid) == 0 && len(rest) == len(n.Items) {
		return fate{ref: r, seen: true}
	}
	c.retired = append(c.retired, r)
	return fate{made: treeOf(byKeys(rest, laid), level), had: n.Count}
}

func (c *change) ofBranch(r api.Ref, n api.Node, marks []mark, level int, down goDown) (fate, api.Errno) {
	// Its Get came ahead of those of its kids; if it stays, nothing is behind it here, and it is taken back.
	before := len(c.retired)
	c.retired = append(c.retired, r)
	var kids [ways]fate
	count, changed := n.Count, false
	for digit, part := range parts(marks, level) {
		kid, e := down(n.Kids[digit], part, level+1)
		if e != api.OK {
			return fate{}, e
		}
		kids[digit] = kid
		if !kid.stays() {
			count, changed = count-kid.had+kid.made.node.Count, true
		}
	}
	if !changed {
		c.retired = c.retired[:before]
		return fate{ref: r, seen: true}, api.OK
	}
	if count > api.MaxLeaf {
		return fate{made: branchOf(kids, count), had: n.Count}, api.OK
	}
	items, e := c.gathered(kids, level+1)
	if e != api.OK {
		return fate{}, e
	}
	return fate{made: leafOf(byKeys(items...)), had: n.Count}, api.OK
}

// gathered are the lists of items of a branch's kids, where the branch becomes a leaf: those that stay are got for that, and retired.
func (c *change) gathered(kids [ways]fate, level int) ([][]api.Item, api.Errno) {
	var lists [][]api.Item
	for _, kid := range kids {
		switch {
		case !kid.stays():
			lists = append(lists, kid.made.items())
		case kid.ref != (api.Ref{}):
			n, e := c.nodeOf(kid, level)
			if e != api.OK {
				return nil, e
			}
			c.retired = append(c.retired, kid.ref)
			lists = append(lists, n.Items)
		}
	}
	return lists, api.OK
}

// nodeOf gets the node of a tree that stays.
func (c *change) nodeOf(f fate, level int) (api.Node, api.Errno) {
	if f.seen {
		return c.again(f.ref, level)
	}
	return c.node(f.ref, level)
}

// laid are the items that the edits lay, by rising keys.
func (c *change) laid(marks []mark) []api.Item {
	var items []api.Item
	for _, m := range marks {
		if x := c.edits[m.at]; !x.Gone {
			items = append(items, x.Item)
		}
	}
	return items
}
