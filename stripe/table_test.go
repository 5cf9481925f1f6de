package stripe_test

import (
	"fmt"
	"math"
	"strings"
	"testing"

	"docket/prim"
	"docket/sched"
	"docket/stripe"
)

// P15.1: stripes is 1 to MaxStripeNum; nothing else is asked.
func TestNew(t *testing.T) {
	for _, w := range worlds() {
		for _, stripes := range []int{0, -1, -maxStripeNum, maxStripeNum + 1, maxStripeNum + 2, math.MaxInt, math.MinInt} {
			if table, e := stripe.New(w, objLock, stripes); table != nil || e != isArg {
				t.Errorf("%d stripes: %v, %d", stripes, table, e)
			}
		}
		for _, stripes := range []int{1, 2, 3, maxStripeNum - 1, maxStripeNum} {
			for _, obj := range []int{0, objLock, -7, math.MaxInt, math.MinInt} {
				table, e := stripe.New(w, obj, stripes)
				if table == nil || e != isOK {
					t.Fatalf("%d stripes of %d: %v, %d", stripes, obj, table, e)
				}
				wantEntries(t, table, 0)
				for s := range stripes {
					wantSlots(t, table, s, 1)
				}
				e1 := wantTake(t, table, "k", stripeOf("k", stripes))
				e1.Lock(nil)
				e1.Unlock(nil)
				table.Drop(nil, e1)
				wantEntries(t, table, 0)
			}
		}
	}
}

// P15.2, P15.3: an entry is there as long as somebody uses it; the next one of its key is another one.
func TestTakeAndDrop(t *testing.T) {
	for _, w := range worlds() {
		table := mustTable(t, w, 1)
		a := wantTake(t, table, "a", 0)
		wantEntries(t, table, 1)
		if wantTake(t, table, "a", 0) != a || wantTake(t, table, "a", 0) != a {
			t.Error("another one while somebody has it")
		}
		b := wantTake(t, table, "b", 1)
		wantEntries(t, table, 2)
		table.Drop(nil, a)
		table.Drop(nil, a)
		wantEntries(t, table, 2)
		if wantTake(t, table, "a", 0) != a {
			t.Error("another one while one of three has it")
		}
		table.Drop(nil, a)
		wantEntries(t, table, 2)
		table.Drop(nil, a)
		wantEntries(t, table, 1)
		again := wantTake(t, table, "a", 2)
		if again == a {
			t.Error("the same one, though nobody had it")
		}
		wantEntries(t, table, 2)
		table.Drop(nil, b)
		wantEntries(t, table, 1)
		table.Drop(nil, again)
		wantEntries(t, table, 0)
		wantTake(t, table, "b", 3)
		wantEntry(t, a, "a", 0)
		wantEntry(t, b, "b", 1)
	}
}

// 15.1: numbers go on by stripes, in each stripe by itself, and none is used twice.
func TestNumbers(t *testing.T) {
	for _, w := range worlds() {
		for _, stripes := range []int{1, 2, 3, 7, 16, maxStripeNum} {
			table := mustTable(t, w, stripes)
			made := make([]int, stripes)
			var have []*stripe.Entry
			for i := range 400 {
				key := fmt.Sprint("in/", i)
				s := stripeOf(key, stripes)
				have = append(have, wantTake(t, table, key, s+made[s]*stripes))
				made[s]++
				// Some go at once, some stay for a while: no number comes again.
				if i%3 == 0 {
					table.Drop(nil, have[len(have)/2])
					have = append(have[:len(have)/2], have[len(have)/2+1:]...)
				}
				wantEntries(t, table, len(have))
			}
		}
	}
}

// P15.2: any text is a key, and unlike texts are unlike keys.
func TestKeys(t *testing.T) {
	keys := []string{"", "\x00", "\x00\x00", "a", "a ", "A", "a/b", "a/", "/", "b/a", "\xff\xfe", "ä", "a\x00", strings.Repeat("k", 100000), strings.Repeat("k", 99999)}
	for _, w := range worlds() {
		for _, stripes := range []int{1, 5, maxStripeNum} {
			table := mustTable(t, w, stripes)
			entries := map[string]*stripe.Entry{}
			nums := map[int]string{}
			for i, key := range keys {
				e := table.Take(nil, key)
				if e.Key() != key || entries[key] != nil || e.Num()%stripes != stripeOf(key, stripes) {
					t.Errorf("%.20q: %.20q %d", key, e.Key(), e.Num())
				}
				if other, there := nums[e.Num()]; there {
					t.Errorf("%.20q and %.20q have one number", key, other)
				}
				entries[key], nums[e.Num()] = e, key
				wantEntries(t, table, i+1)
			}
			for i, key := range keys {
				if table.Take(nil, key) != entries[key] {
					t.Errorf("%.20q: another one", key)
				}
				table.Drop(nil, entries[key])
				table.Drop(nil, entries[key])
				wantEntries(t, table, len(keys)-i-1)
			}
		}
	}
}

// P15.4: the latch of an entry is its own, and free at first.
func TestLatch(t *testing.T) {
	table := mustTable(t, prim.Scripted(), 2)
	a, b := table.Take(nil, "a"), table.Take(nil, "b")
	waits := func(e *stripe.Entry) bool { return mustRun(t, []client{e.Lock}).Stuck }
	if waits(a) || waits(b) {
		t.Error("a latch is held at first")
	}
	mustEnd(t, []client{a.Lock}, 0)
	if !waits(a) || waits(b) || !waits(table.Take(nil, "a")) {
		t.Error("one latch for two, or two for one")
	}
	mustEnd(t, []client{a.Unlock}, 0)
	if waits(a) {
		t.Error("it is held still")
	}
	// An Unlock of what nobody holds is a step, and nothing else.
	mustEnd(t, []client{a.Unlock}, 0)
	if waits(a) {
		t.Error("an Unlock locked it")
	}
	// Whoever left it held has no part in the next one of that key.
	a.Lock(nil)
	table.Drop(nil, a)
	table.Drop(nil, a)
	if next := table.Take(nil, "a"); next == a || waits(next) || !waits(a) {
		t.Error("the next one is held")
	}
}

// 15.3, example 3; P15.5: by each number of entries, in each stripe by itself.
func TestSlots(t *testing.T) {
	for _, w := range worlds() {
		for _, stripes := range []int{1, 3, maxStripeNum} {
			table := mustTable(t, w, stripes)
			s := stripes / 2
			slots := 1
			var have []*stripe.Entry
			for i, key := range keysOf(s, stripes, 140) {
				have = append(have, table.Take(nil, key))
				if i+1 > slotLoad*slots {
					slots *= 2
				}
				if want, told := map[int]int{1: 1, 4: 1, 5: 2, 8: 2, 9: 4, 16: 4, 17: 8, 128: 32, 129: 64}[i+1]; told && slots != want {
					t.Fatalf("%d entries: the test has %d slots", i+1, slots)
				}
				wantSlots(t, table, s, slots)
				// The same key once more makes none.
				table.Drop(nil, table.Take(nil, key))
				wantSlots(t, table, s, slots)
			}
			for _, e := range have {
				table.Drop(nil, e)
				wantSlots(t, table, s, slots)
			}
			wantEntries(t, table, 0)
			for other := range stripes {
				if other != s {
					wantSlots(t, table, other, 1)
				}
			}
			// It never falls, and rises where it would from there on.
			for i, key := range keysOf(s, stripes, 300) {
				table.Take(nil, key)
				want := slots
				if i+1 > slotLoad*slots {
					want *= 2
				}
				wantSlots(t, table, s, want)
			}
		}
	}
}

// P15.5: where an entry goes and another one comes, what counts is how many there are, not how many were made.
func TestSlotsByWhatIsThere(t *testing.T) {
	table := mustTable(t, nil, 1)
	var have []*stripe.Entry
	for i := range 1000 {
		have = append(have, table.Take(nil, fmt.Sprint(i)))
		if len(have) == slotLoad {
			wantSlots(t, table, 0, 1)
			table.Drop(nil, have[i%slotLoad])
			have = append(have[:i%slotLoad], have[i%slotLoad+1:]...)
		}
	}
	table.Take(nil, "more")
	wantSlots(t, table, 0, 1)
	table.Take(nil, "and more")
	wantSlots(t, table, 0, 2)
}

// P15.5: a stripe that there is not has no slots.
func TestNoSuchStripe(t *testing.T) {
	for _, stripes := range []int{1, 5, maxStripeNum} {
		table := mustTable(t, nil, stripes)
		for _, s := range []int{-1, stripes, stripes + 1, maxStripeNum, maxStripeNum + 1, -maxStripeNum, math.MaxInt, math.MinInt} {
			wantSlots(t, table, s, 0)
		}
	}
}

// P15.6: nil tables, nil entries: and no step.
func TestNil(t *testing.T) {
	var none *stripe.Table
	var nobody *stripe.Entry
	table := mustTable(t, prim.Scripted(), 1)
	a := table.Take(nil, "a")
	all := func(c *sched.Client) {
		if e := none.Take(c, "a"); e != nil {
			t.Errorf("Take: %v", e)
		}
		none.Drop(c, a)
		none.Drop(c, nobody)
		none.Drop(c, nil)
		wantEntries(t, none, 0)
		for _, s := range []int{0, 1, -1, maxStripeNum} {
			wantSlots(t, none, s, 0)
		}
		nobody.Lock(c)
		nobody.Lock(c)
		nobody.Unlock(c)
		if nobody.Key() != "" || nobody.Num() != -1 {
			t.Errorf("%q %d", nobody.Key(), nobody.Num())
		}
		table.Drop(c, nobody)
		table.Drop(c, nil)
	}
	wantSteps(t, "of nothing", all)
	all(nil)
	wantEntries(t, table, 1)
	// Had a Drop of the nil table counted, the entry would go with one of two.
	table.Take(nil, "a")
	table.Drop(nil, a)
	wantEntries(t, table, 1)
	table.Drop(nil, a)
	wantEntries(t, table, 0)
}

// Wrong Drops, of which nothing is promised but each step: more often than it was taken, of an entry that has gone, of another table's.
func TestWrongDrops(t *testing.T) {
	for _, w := range worlds() {
		table, other := mustTable(t, w, 1), mustTable(t, w, 3)
		a := table.Take(nil, "a")
		table.Drop(nil, a)
		table.Drop(nil, a)
		table.Drop(nil, a)
		wantEntries(t, table, 0)
		next := wantTake(t, table, "a", 1)
		table.Drop(nil, a)
		wantEntries(t, table, 1)

		// One of two who have it drops it twice: it goes, though the other one has it still.
		b := table.Take(nil, "b")
		table.Take(nil, "b")
		table.Drop(nil, b)
		table.Drop(nil, b)
		wantTake(t, table, "b", 3)
		wantEntries(t, table, 2)

		// The table looks for it among its own, and has one of that key.
		mine := other.Take(nil, "a")
		other.Drop(nil, next)
		wantEntries(t, table, 2)
		wantEntries(t, other, 1)
		if other.Take(nil, "a") != mine || table.Take(nil, "a") != next {
			t.Error("a wrong Drop took out another one")
		}
	}
}
