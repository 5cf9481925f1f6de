package epoch_test

import (
	"slices"
	"testing"
	"time"

	"docket/api"
	"docket/chain"
	"docket/prim"
)

// soon is how long a long list may take: it is far more than it does.
const soon = 2 * time.Minute

func mustBeSoon(t *testing.T, what string, f func()) {
	t.Helper()
	from := time.Now()
	f()
	if took := time.Since(from); took > soon {
		t.Errorf("%s: it took %v", what, took)
	}
}

// P14.1: with all slots, of which each pin counts by itself.
func TestAllSlots(t *testing.T) {
	for _, w := range worlds() {
		h, k := made(t, w, maxSlots+1, maxSlots)
		for slot := range maxSlots {
			k.Pin(nil, slot)
			wantPublish(t, k, int64(6+slot), firsts(slot+1), 0, slot+1)
		}
		for slot := range maxSlots {
			wantPass(t, k, 0, maxSlots-slot)
			k.Unpin(nil, slot)
			wantPass(t, k, 1, maxSlots-slot-1)
		}
		wantHave(t, h, maxSlots+1)
	}
}

// P14.4, P14.5: a list of any length, from which is taken at any place of it, is what it would be by the words.
func TestLongLists(t *testing.T) {
	d := newDice(9)
	for i := range 12 {
		const nodes = 6000
		h := mustHeap[int](t, nil, nodes)
		for n := range nodes {
			mustAlloc(t, h, nil, n)
		}
		k := mustKeep(t, nil, h, 3, root{})
		w := &words{pins: make([]int64, 3), most: nodes, nodes: slices.Repeat([]plainNode{{gen: 1, live: true}}, nodes)}
		next := 1
		for next < nodes-3 {
			stamp, slot := w.root+1, d.Intn(2)
			if i%2 == 1 {
				stamp = int64(d.Intn(2000))
			}
			var want, got int
			tell := func(n int) *chain.Link {
				want = n
				return nil
			}
			var do *chain.Link
			switch a := d.Intn(1000); {
			case a < 980:
				refs := firsts(next, next+1, next+2)[:d.Intn(4)]
				next += len(refs)
				got, do = k.Publish(nil, root{stamp: stamp}, refs), w.publish(stamp, refs, tell)
			case a < 985:
				k.Unpin(nil, slot)
				do = w.unpin(slot, func() *chain.Link { return nil })
			case a < 995:
				k.Pin(nil, slot)
				do = w.pin(slot, func(int64) *chain.Link { return nil })
			default:
				got, do = k.Pass(nil), w.passAlone(tell)
			}
			chain.Done(do)
			if got != want || k.Retired() != len(w.list) {
				t.Fatalf("%d freed, %d retired; want %d, %d", got, k.Retired(), want, len(w.list))
			}
		}
		wantPins(t, k, w.pins...)
		for n, x := range w.nodes {
			if _, there := h.Get(nil, ref(n+1, 1)); there != x.live {
				t.Fatalf("node %d is there: %v", n+1, there)
			}
		}
		for slot := range 3 {
			k.Unpin(nil, slot)
		}
		wantPass(t, k, len(w.list), 0)
		// What is left of the pool's order is that of the Frees.
		for _, x := range w.list {
			w.pool = append(w.pool, x.ref.Num)
		}
		for _, num := range slices.Backward(w.pool) {
			if r := mustAlloc(t, h, nil, 0); r != ref(num, 2) {
				t.Fatalf("%v; want node %d", r, num)
			}
		}
	}
}

// A pin that is held long: a Publish does not cost the whole list each time; nor where the pins follow the roots from afar.
func TestHeldLong(t *testing.T) {
	const rounds, slots = 200000, 3
	none := []api.Ref{{}, {}}
	k := mustKeep(t, nil, mustHeap[int](t, nil, 1), slots, root{})
	mustBeSoon(t, "to hold a long list", func() {
		k.Pin(nil, 0)
		for i := range rounds {
			k.Publish(nil, root{stamp: int64(i + 1)}, none)
		}
		wantRetired(t, k, 2*rounds)
	})
	mustBeSoon(t, "to follow from afar", func() {
		k.Pin(nil, 1)
		k.Unpin(nil, 0)
		wantPass(t, k, 0, 0)
		const far = 10000
		for i := range rounds {
			k.Publish(nil, root{stamp: int64(rounds + i + 1)}, none)
			if i%far == 0 {
				k.Pin(nil, i/far%slots)
			}
		}
		for slot := range slots {
			k.Unpin(nil, slot)
		}
		wantPass(t, k, 0, 0)
	})
}

// One Publish that retires as much as a heap has.
func TestMuchAtOnce(t *testing.T) {
	const most = 1048576
	for _, w := range []*prim.World{prim.Scripted(), prim.Real()} {
		h := mustHeap[int8](t, w, most)
		var all []api.Ref
		for range most {
			all = append(all, mustAlloc(t, h, nil, 0))
		}
		k := mustKeep(t, w, h, 1, root{})
		k.Pin(nil, 0)
		mustBeSoon(t, "to retire and free it all", func() {
			wantPublish(t, k, 1, all[:most/2], 0, most/2)
			wantPublish(t, k, 2, all[most/2:], 0, most)
			k.Unpin(nil, 0)
			wantPass(t, k, most, 0)
		})
		if h.Live() != 0 || h.Pooled() != most {
			t.Errorf("%d live, %d pooled", h.Live(), h.Pooled())
		}
	}
}
