package epoch_test

import (
	"sync/atomic"
	"testing"

	"docket/api"
	"docket/epoch"
	"docket/prim"
)

// wide is a value of many words, all of which say the same: one that was torn would not.
type wide [50]int

func newWide(i int) wide {
	var x wide
	for k := range x {
		x[k] = i
	}
	return x
}

// broad is a root of many words, likewise; its nodes hold its stamp.
type broad struct {
	all   [20]int64
	nodes []api.Ref
}

func (b broad) Stamp() int64 { return b.all[0] }

func newBroad(stamp int64, nodes ...api.Ref) broad {
	var b broad
	for i := range b.all {
		b.all[i] = stamp
	}
	b.nodes = nodes
	return b
}

// P14.7, P14.8 in the real world: some publish under a lock, and free and use again what nobody reads; others pin, read every node of what they were told, and unpin.
func TestBeside(t *testing.T) {
	const slots, readers, writers, rounds, each = 8, 5, 2, 6000, 3
	w := prim.Real()
	h := mustHeap[wide](t, w, 100000)
	lock := w.Mutex(lockObj, 0)
	k := mustKeep(t, w, h, slots, newBroad(0))
	var ended, freed, looks atomic.Int64
	write := func() {
		defer ended.Add(1)
		for range rounds {
			lock.Lock(nil)
			was := k.Root(nil)
			next := newBroad(was.Stamp() + 1)
			for range each {
				next.nodes = append(next.nodes, mustAlloc(t, h, nil, newWide(int(next.Stamp()))))
			}
			freed.Add(int64(k.Publish(nil, next, was.nodes)))
			lock.Unlock(nil)
		}
	}
	read := func(slot int) {
		for over := false; !over && !t.Failed(); {
			over = ended.Load() == writers
			from := k.Root(nil).Stamp()
			b := k.Pin(nil, slot)
			if s := b.Stamp(); b.all != newBroad(s).all || s < from || s > 0 && len(b.nodes) != each {
				t.Errorf("Pin: %v, behind %d", b, from)
			}
			for _, r := range b.nodes {
				if v, there := h.Get(nil, r); !there || v != newWide(int(b.Stamp())) {
					t.Errorf("node %v of the root %d: %v, %v", r, b.Stamp(), v, there)
				}
			}
			k.Unpin(nil, slot)
			looks.Add(1)
		}
	}
	bodies := []func(){write, write}
	for i := range readers {
		bodies = append(bodies, func() { read(i) })
	}
	prim.Beside(bodies)
	wantPins(t, k, make([]int64, slots)...)
	left := k.Retired()
	wantPass(t, k, left, 0)
	if s := k.Root(nil).Stamp(); s != writers*rounds || h.Live() != each || freed.Load()+int64(left) != each*(writers*rounds-1) || looks.Load() < readers {
		t.Errorf("the root %d, %d live, %d freed and %d, %d looks", s, h.Live(), freed.Load(), left, looks.Load())
	}
}

// P14.6 in the real world: pins may be looked at beside those who set them.
func TestPinsBeside(t *testing.T) {
	w := prim.Real()
	h := mustHeap[int](t, w, 1)
	k, _ := epoch.New(w, keeperObj, h, 3, root{stamp: 6})
	var bodies []func()
	for slot := range 3 {
		bodies = append(bodies, func() {
			for range 2000 {
				k.Pin(nil, slot)
				pins := k.Pins()
				if len(pins) != 3 || pins[slot] != 7 {
					t.Errorf("slot %d: %v", slot, pins)
				}
				k.Unpin(nil, slot)
				if pins := k.Pins(); pins[slot] != 0 {
					t.Errorf("slot %d: %v", slot, pins)
				}
			}
		})
	}
	prim.Beside(bodies)
	wantPins(t, k, 0, 0, 0)
}
