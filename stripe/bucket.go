package stripe

import (
	"slices"

	"docket/api"
	"docket/sched"
)

// bucket is the entries of a stripe that are there, at most one of a key. It is never written: another one is made of it, so that whoever has got it has it as it was.
type bucket struct {
	made  int // how many entries the stripe has made, with those that have gone
	count int // of those that are there
	slots slots[*Entry]
}

// use is the key's entry, with one user more; nil, if there is none.
func (b bucket) use(c *sched.Client, key string) *Entry {
	e := find(b.slots, key)
	if e != nil {
		e.users.Add(c, 1)
	}
	return e
}

// with is the bucket with a new entry.
func (b bucket) with(e *Entry) bucket {
	all, sum := b.slots, sumOf(e.key)
	if b.count+1 > api.SlotLoad*all.number() {
		all = doubled(all, 0)
	}
	slot := slices.Concat(slotOf(all, sum), []*Entry{e})
	return bucket{made: b.made + 1, count: b.count + 1, slots: changed(all, sum, slot)}
}

// without is the bucket without an entry that is there; it has as many slots.
func (b bucket) without(e *Entry) bucket {
	sum := sumOf(e.key)
	slot := slices.DeleteFunc(slices.Clone(slotOf(b.slots, sum)), func(x *Entry) bool { return x == e })
	return bucket{made: b.made, count: b.count - 1, slots: changed(b.slots, sum, slot)}
}
