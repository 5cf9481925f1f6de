package epoch

import (
	"slices"

	"docket/api"
)

// full is how many batches a block has at most. So a Publish does not copy all of a long list, nor does a pass look at each batch of one that somebody holds for long.
const full = 256

// batch is what one Publish retired: it is free to go as a whole.
type batch struct {
	refs  []api.Ref
	after int64 // one more than the stamp: the least pin that does not hold it
}

// block is batches that are one behind the other in the list: one at least.
type block struct {
	batches []batch
	least   int64 // of what their afters are: a pin below it holds them all
}

// list is what is retired, in its order. It is never written: another one is made of it, so that whoever has got it has it as it was.
type list struct {
	count  int // of its nodes
	blocks []block
}

func batchOf[R Stamped](root R, retired []api.Ref) batch {
	if len(retired) == 0 {
		return batch{}
	}
	refs := make([]api.Ref, len(retired))
	copy(refs, retired)
	return batch{refs: refs, after: stampOf(root) + 1}
}

func (b batch) isHeld(pins []int64) bool {
	return slices.ContainsFunc(pins, func(pin int64) bool { return pin < b.after })
}

func blockOf(batches []batch) block {
	least := batches[0].after
	for _, b := range batches {
		least = min(least, b.after)
	}
	return block{batches: batches, least: least}
}

// with is the list with a batch behind the others.
func (l list) with(b batch) list {
	rest, last := l.blocks, []batch(nil)
	if n := len(rest) - 1; n >= 0 && len(rest[n].batches) < full {
		rest, last = rest[:n], rest[n].batches
	}
	return list{
		count:  l.count + len(b.refs),
		blocks: behind(rest, blockOf(behind(last, b))),
	}
}

// sift parts the list, by the pins that are not 0: what stays, and the nodes that are free to go.
func (l list) sift(pins []int64) (list, []api.Ref) {
	stay := make([]block, 0, len(l.blocks))
	var free []api.Ref
blocks:
	for _, x := range l.blocks {
		for _, pin := range pins {
			if pin < x.least {
				stay = append(stay, x)
				continue blocks
			}
		}
		var held []batch
		for _, b := range x.batches {
			if b.isHeld(pins) {
				held = append(held, b)
			} else {
				free = append(free, b.refs...)
			}
		}
		if len(held) > 0 {
			stay = append(stay, blockOf(held))
		}
	}
	return list{count: l.count - len(free), blocks: stay}, free
}

// behind is a new list, with x behind the others.
func behind[X any](l []X, x X) []X {
	longer := make([]X, len(l)+1)
	copy(longer, l)
	longer[len(l)] = x
	return longer
}
