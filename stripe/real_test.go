package stripe_test

import (
	"fmt"
	"sync/atomic"
	"testing"

	"docket/prim"
	"docket/stripe"
)

// P15.7, P15.8 in the real world: what is written under a key's latch alone is all there, whoever took the latch when; and none is left.
func TestBeside(t *testing.T) {
	for _, x := range []struct{ stripes, keys, clients, rounds int }{
		{1, 1, 8, 4000}, {1, 3, 8, 4000}, {4, 40, 8, 4000}, {maxStripeNum, 200, 16, 2000}, {2, 1, 2, 20000},
	} {
		table := mustTable(t, prim.Real(), x.stripes)
		sums := make([]int, x.keys) // without a lock but the latch
		last := make([]*stripe.Entry, x.keys)
		var changes atomic.Int64
		var bodies []func()
		for i := range x.clients {
			bodies = append(bodies, func() {
				d := newDice(int64(i))
				for range x.rounds {
					k := d.Intn(x.keys)
					e := table.Take(nil, fmt.Sprint("c/", k))
					e.Lock(nil)
					if e.Key() != fmt.Sprint("c/", k) || table.Take(nil, e.Key()) != e {
						t.Errorf("another one than %s %d", e.Key(), e.Num())
					}
					table.Drop(nil, e)
					sums[k]++
					if last[k] != e {
						changes.Add(1)
						last[k] = e
					}
					e.Unlock(nil)
					table.Drop(nil, e)
				}
			})
		}
		prim.Beside(bodies)
		all := 0
		for _, n := range sums {
			all += n
		}
		if all != x.clients*x.rounds || changes.Load() < int64(x.keys) {
			t.Errorf("%v: %d, %d entries were seen", x, all, changes.Load())
		}
		wantEntries(t, table, 0)
	}
}

// 15.1 in the real world: many who make entries at one time are told unlike ones, with unlike numbers, one for each key.
func TestMadeBeside(t *testing.T) {
	const clients, keys = 8, 500
	for _, stripes := range []int{1, 5} {
		table := mustTable(t, prim.Real(), stripes)
		var told [clients][keys]*stripe.Entry
		var bodies []func()
		for i := range clients {
			bodies = append(bodies, func() {
				for k := range keys {
					told[i][k] = table.Take(nil, fmt.Sprint(k))
				}
			})
		}
		prim.Beside(bodies)
		wantEntries(t, table, keys)
		nums := map[int]int{}
		for k := range keys {
			for i := range clients {
				if e := told[i][k]; e != told[0][k] || e.Key() != fmt.Sprint(k) || e.Num()%stripes != stripeOf(e.Key(), stripes) {
					t.Errorf("%d: %s %d", k, e.Key(), e.Num())
				}
			}
			nums[told[0][k].Num()]++
		}
		// None is left out: in each stripe they go on from its own number by stripes.
		made := make([]int, stripes)
		for k := range keys {
			made[stripeOf(fmt.Sprint(k), stripes)]++
		}
		for s, n := range made {
			for i := range n {
				if nums[s+i*stripes] != 1 {
					t.Errorf("the number %d: %d times", s+i*stripes, nums[s+i*stripes])
				}
			}
		}
		bodies = nil
		for i := range clients {
			bodies = append(bodies, func() {
				for k := range keys {
					table.Drop(nil, told[i][(k*7+i)%keys])
				}
			})
		}
		prim.Beside(bodies)
		wantEntries(t, table, 0)
	}
}
