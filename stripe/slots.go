package stripe

import "docket/ident"

// keyed is what lies in slots, by its key.
type keyed interface{ Key() string }

// slots are one slot, with the list of those that lie in it, or two halves with as many slots each: so a change copies the way to one slot alone, however many there are.
type slots[E keyed] struct {
	slot   []E
	halves *[2]slots[E] // nil: there is one slot
}

// sumOf says by its digits to the base 2, the lowest first, in which halves a key lies. It is mixed, as the sums of one stripe have a remainder in common.
func sumOf(key string) uint64 { return ident.Mix(ident.Hash(key)) }

// number is how many there are.
func (s slots[E]) number() int {
	if s.halves == nil {
		return 1
	}
	return 2 * s.halves[0].number()
}

// slotOf is the slot in which a sum's keys lie.
func slotOf[E keyed](s slots[E], sum uint64) []E {
	for s.halves != nil {
		s, sum = s.halves[sum%2], sum/2
	}
	return s.slot
}

// find is the one of that key; the zero value, if there is none.
func find[E keyed](s slots[E], key string) E {
	slot := slotOf(s, sumOf(key))
	for i := range len(slot) {
		if slot[i].Key() == key {
			return slot[i]
		}
	}
	var none E
	return none
}

// changed is the slots with another list in that of the sum.
func changed[E keyed](s slots[E], sum uint64, slot []E) slots[E] {
	if s.halves == nil {
		return slots[E]{slot: slot}
	}
	halves := *s.halves
	halves[sum%2] = changed(halves[sum%2], sum/2, slot)
	return slots[E]{halves: &halves}
}

// doubled is twice as many slots, with the same in them; level is how many digits of the sums were used on the way.
func doubled[E keyed](s slots[E], level int) slots[E] {
	var halves [2]slots[E]
	if s.halves == nil {
		for i := range len(s.slot) {
			half := &halves[sumOf(s.slot[i].Key())>>level%2]
			half.slot = append(half.slot, s.slot[i])
		}
	} else {
		for i := range len(halves) {
			halves[i] = doubled(s.halves[i], level+1)
		}
	}
	return slots[E]{halves: &halves}
}
