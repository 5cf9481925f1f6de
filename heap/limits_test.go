package heap_test

import (
	"testing"
	"time"

	"docket/prim"
)

// soon is how long the greatest heap may take: it is far more than it does.
const soon = 2 * time.Minute

func mustBeSoon(t *testing.T, what string, f func()) {
	t.Helper()
	from := time.Now()
	f()
	if took := time.Since(from); took > soon {
		t.Errorf("%s: it took %v", what, took)
	}
}

// P12.1, P12.2: the greatest heap is filled, emptied and filled anew; each call takes about as long as in a small one.
func TestGreatestHeap(t *testing.T) {
	for _, w := range []*prim.World{prim.Scripted(), prim.Real()} {
		h := mustNew[int32](t, w, maxNodes)
		mustBeSoon(t, "to fill it", func() {
			for i := range maxNodes {
				if r, e := h.Alloc(nil, int32(i)); r != ref(i+1, 1) || e != isOK {
					t.Fatalf("%v, %d behind %d", r, e, i)
				}
			}
		})
		wantFull(t, h)
		wantValue(t, h, ref(1, 1), 0)
		wantValue(t, h, ref(maxNodes, 1), maxNodes-1)
		wantNone(t, h, ref(maxNodes+1, 1))
		mustBeSoon(t, "to empty it", func() {
			for i := range maxNodes {
				if !h.Free(nil, ref(i+1, 1)) {
					t.Fatalf("%d is not there to be freed", i+1)
				}
			}
		})
		if h.Made() != maxNodes || h.Pooled() != maxNodes || h.Live() != 0 {
			t.Errorf("%d made, %d pooled, %d live", h.Made(), h.Pooled(), h.Live())
		}
		mustBeSoon(t, "to fill it anew", func() {
			for i := range maxNodes {
				if r, e := h.Alloc(nil, int32(-i)); r != ref(maxNodes-i, 2) || e != isOK {
					t.Fatalf("%v, %d behind %d", r, e, i)
				}
			}
		})
		wantFull(t, h)
		wantNone(t, h, ref(1, 1))
		wantValue(t, h, ref(1, 2), -(maxNodes - 1))
		if h.Made() != maxNodes || h.Pooled() != 0 || h.Live() != maxNodes {
			t.Errorf("%d made, %d pooled, %d live", h.Made(), h.Pooled(), h.Live())
		}
	}
}

// A full heap of which all but a few are pooled: a node that is used again and again does not cost the whole pool each time.
func TestGreatPool(t *testing.T) {
	const nodes = 200000
	h := mustNew[int](t, prim.Scripted(), nodes)
	for i := range nodes {
		mustAlloc(t, h, i)
	}
	for i := range nodes {
		wantFree(t, h, ref(i+1, 1), true)
	}
	mustBeSoon(t, "to use one again", func() {
		for i := range 1000000 {
			r := ref(nodes, i+2)
			wantAlloc(t, h, i, r)
			wantFree(t, h, r, true)
		}
	})
	if h.Pooled() != nodes || h.Made() != nodes {
		t.Errorf("%d pooled of %d", h.Pooled(), h.Made())
	}
}
