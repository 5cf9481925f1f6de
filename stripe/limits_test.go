package stripe_test

import (
	"strconv"
	"testing"
	"time"

	"docket/prim"
	"docket/stripe"
)

// soon is how long many entries may take: it is far more than they do.
const soon = 2 * time.Minute

// Many entries in one stripe: a Take or Drop does not cost all of them. Each is found among the others, as they come and as they go.
func TestManyEntries(t *testing.T) {
	const n, slots = 200000, 65536
	for _, w := range []*prim.World{prim.Scripted(), prim.Real()} {
		from := time.Now()
		table := mustTable(t, w, 1)
		all := make([]*stripe.Entry, n)
		for i := range all {
			all[i] = wantTake(t, table, strconv.Itoa(i), i)
		}
		wantEntries(t, table, n)
		wantSlots(t, table, 0, slots)
		for i, e := range all {
			if table.Take(nil, strconv.Itoa(i)) != e {
				t.Fatalf("%d: another one", i)
			}
			table.Drop(nil, e)
		}
		for i, e := range all {
			if i%2 == 0 {
				table.Drop(nil, e)
			}
		}
		wantEntries(t, table, n/2)
		for i, e := range all {
			if got := table.Take(nil, strconv.Itoa(i)); (got == e) != (i%2 == 1) || got.Key() != strconv.Itoa(i) {
				t.Fatalf("%d: %d", i, got.Num())
			}
			if i%2 == 1 {
				table.Drop(nil, e)
				table.Drop(nil, e)
			}
		}
		wantEntries(t, table, n/2)
		wantSlots(t, table, 0, slots)
		if took := time.Since(from); took > soon {
			t.Errorf("it took %v", took)
		}
	}
}

// All stripes, each with entries of its own.
func TestAllStripes(t *testing.T) {
	for _, w := range worlds() {
		table := mustTable(t, w, maxStripeNum)
		var all []*stripe.Entry
		for s := range maxStripeNum {
			for i, key := range keysOf(s, maxStripeNum, s+1) {
				all = append(all, wantTake(t, table, key, s+i*maxStripeNum))
			}
		}
		for s := range maxStripeNum {
			want := 1
			for s+1 > slotLoad*want {
				want *= 2
			}
			wantSlots(t, table, s, want)
		}
		wantEntries(t, table, len(all))
		for i, e := range all {
			table.Drop(nil, e)
			wantEntries(t, table, len(all)-i-1)
		}
	}
}
