package epoch

import (
	"slices"

	"docket/sched"
)

// pass is the one over the list as it is then.
func (k *Keeper[R, T]) pass(c *sched.Client, l list) int {
	if l.count == 0 {
		return 0
	}
	set := slices.DeleteFunc(k.loadPins(c), func(pin int64) bool { return pin == 0 })
	stay, free := l.sift(set)
	if len(free) == 0 {
		return 0
	}
	k.retired.Set(c, stay)
	freed := 0
	for _, r := range free {
		if k.heap.Free(c, r) {
			freed++
		}
	}
	return freed
}

// loadPins is the pins, by slots.
func (k *Keeper[R, T]) loadPins(c *sched.Client) []int64 {
	pins := make([]int64, len(k.pins))
	for slot, pin := range k.pins {
		pins[slot] = pin.Load(c)
	}
	return pins
}

func (k *Keeper[R, T]) has(slot int) bool {
	return k != nil && slot >= 0 && slot < len(k.pins)
}

// stampOf takes a root that cannot tell its stamp, as a nil one, for one of the stamp 0: no call may panic.
func stampOf[R Stamped](root R) (stamp int64) {
	defer func() { recover() }()
	return root.Stamp()
}
