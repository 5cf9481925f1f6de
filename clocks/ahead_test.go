package clocks_test

import (
	"slices"
	"testing"

	"docket/api"
	"docket/clocks"
)

// links are the pairs of kinds of which, of one thing and of unlike clients, one event is linked to the next.
var links = [][2]int{
	{kindUnlock, kindLock}, {kindUnlock, kindRLock},
	{kindRUnlock, kindLock},
	{kindStore, kindLoad}, {kindStore, kindAdd}, {kindAdd, kindLoad}, {kindAdd, kindAdd},
}

// P11.1, P11.2: of two events of unlike clients the first is ahead just if a line of the chapter links them.
func TestEachPairOfKinds(t *testing.T) {
	for i := kindLock; i <= kindReturn; i++ {
		for j := kindLock; j <= kindReturn; j++ {
			want := slices.Contains(links, [2]int{i, j})
			l := trace{event(0, i, 5, 6), event(1, j, 5, 6)}
			second := []int{0, 1}
			if want {
				second = []int{1, 1}
			}
			if c := mustClocks(t, l, 2); !sameClocks(c, [][]int{{1, 0}, second}) {
				t.Errorf("kind %d, kind %d: clocks %v", i, j, c)
			}
			if clocks.Before(l, 2, 0, 1) != want || clocks.Before(l, 2, 1, 0) {
				t.Errorf("kind %d, kind %d: ahead %v, and the other way round %v", i, j, !want, clocks.Before(l, 2, 1, 0))
			}
		}
	}
}

// P11.1: links but those within a client are of one thing: the same Obj and the same Num.
func TestLinksAreOfOneThing(t *testing.T) {
	for _, kinds := range links {
		for _, other := range [][2]int{{5, 7}, {7, 6}, {6, 5}, {7, 7}, {-5, -6}, {5, -6}, {5, 6 + 1<<32}, {5 + 1<<32, 6}} {
			l := trace{event(0, kinds[0], 5, 6), event(1, kinds[1], other[0], other[1])}
			if clocks.Before(l, 2, 0, 1) {
				t.Errorf("kinds %v of (5 6) and %v: linked", kinds, other)
			}
		}
	}
	least, most := -1<<63, 1<<63-1
	far := trace{event(0, kindUnlock, least, most), event(1, kindLock, least, most), event(1, kindLock, most, least)}
	if !clocks.Before(far, 2, 0, 1) {
		t.Error("the least Obj and the greatest Num: not linked")
	}
	if far[1], far[2] = far[2], far[1]; clocks.Before(far, 2, 0, 1) {
		t.Error("the least Obj and the greatest Num, the other way round: linked")
	}
}

// P11.1, the first line: whatever the kinds and the things.
func TestOneClient(t *testing.T) {
	for i := kindLock; i <= kindReturn; i++ {
		for j := kindLock; j <= kindReturn; j++ {
			l := trace{event(2, i, 1, 2), event(0, kindCall, 0, 0), event(2, j, 3, 4)}
			if c := mustClocks(t, l, 3); !sameClocks(c, [][]int{{0, 0, 1}, {1, 0, 0}, {0, 0, 2}}) || !clocks.Before(l, 3, 0, 2) {
				t.Errorf("kind %d, kind %d: clocks %v", i, j, c)
			}
		}
	}
}

// P11.1, the last line: a StepStore of that thing between two cuts them off, and nothing else does.
func TestBetween(t *testing.T) {
	for _, kinds := range links {
		for between := kindLock; between <= kindReturn; between++ {
			for num := range 2 {
				l := trace{event(0, kinds[0], 5, 0), event(2, between, 5, num), event(1, kinds[1], 5, 0)}
				cut := between == kindStore && num == 0 && (kinds[0] == kindStore || kinds[0] == kindAdd)
				if clocks.Before(l, 3, 0, 2) == cut {
					t.Errorf("kinds %v, between them kind %d of thing %d: ahead %v", kinds, between, num, cut)
				}
			}
		}
	}
}

// P11.1: a lock goes on with all unlocks ahead of it, not with the last one alone.
func TestAllUnlocksAreAhead(t *testing.T) {
	l := trace{by(0, kindUnlock, a), by(1, kindUnlock, a), by(2, kindRUnlock, a), by(3, kindRUnlock, a), by(4, kindRLock, a), by(5, kindLock, a)}
	c := mustClocks(t, l, 6)
	if !slices.Equal(c[4], []int{1, 1, 0, 0, 1, 0}) || !slices.Equal(c[5], []int{1, 1, 1, 1, 0, 1}) {
		t.Errorf("clocks %v", c)
	}
}

// P11.1: a store does not observe, an add does; a load leaves nothing behind.
func TestWhatAtomicsHandOn(t *testing.T) {
	for _, row := range []struct {
		name string
		l    trace
		want []int // the last event's clock
	}{
		{"two stores", trace{by(0, kindStore, f), by(1, kindStore, f), by(2, kindLoad, f)}, []int{0, 1, 1}},
		{"two adds", trace{by(0, kindAdd, f), by(1, kindAdd, f), by(2, kindLoad, f)}, []int{1, 1, 1}},
		{"a store, an add", trace{by(0, kindStore, f), by(1, kindAdd, f), by(2, kindLoad, f)}, []int{1, 1, 1}},
		{"an add, a store", trace{by(0, kindAdd, f), by(1, kindStore, f), by(2, kindLoad, f)}, []int{0, 1, 1}},
		{"an add, a load", trace{by(0, kindAdd, f), by(1, kindLoad, f), by(2, kindLoad, f)}, []int{1, 0, 1}},
		{"a store between adds", trace{by(0, kindAdd, f), by(1, kindStore, f), by(1, kindAdd, f), by(2, kindAdd, f)}, []int{0, 2, 1}},
		{"a store of what was loaded", trace{by(0, kindStore, f), by(1, kindLoad, f), by(1, kindStore, f), by(2, kindLoad, f)}, []int{1, 2, 1}},
		{"a store of the same client", trace{by(0, kindStore, f), by(0, kindStore, f), by(2, kindLoad, f)}, []int{2, 0, 1}},
		{"a store that comes too late", trace{by(0, kindAdd, f), by(2, kindLoad, f), by(1, kindStore, f), by(2, kindCall, 0)}, []int{1, 0, 2}},
	} {
		c := mustClocks(t, row.l, 3)
		if got := c[len(c)-1]; !slices.Equal(got, row.want) {
			t.Errorf("%s: %v; want %v", row.name, got, row.want)
		}
	}
}

// P11.1: what a thing was left is what was known then, and not what its client learns later.
func TestMarksStay(t *testing.T) {
	for _, kinds := range links {
		l := trace{by(0, kinds[0], a), by(2, kindStore, f), by(0, kindLoad, f), by(0, kindSet, x), by(1, kinds[1], a)}
		if c := mustClocks(t, l, 3); !sameClocks(c, [][]int{{1, 0, 0}, {0, 0, 1}, {2, 0, 1}, {3, 0, 1}, {1, 1, 0}}) {
			t.Errorf("kinds %v: clocks %v", kinds, c)
		}
	}
}

// P11.2: a way may go over many clients and things.
func TestLongWay(t *testing.T) {
	var l trace
	for i := range maxClients {
		if i > 0 {
			l = append(l, event(i, kindLock, i-1, 0))
		}
		l = append(l, event(i, kindUnlock, i, 0))
	}
	last := len(l) - 1
	for i := range last {
		if !clocks.Before(l, maxClients, i, last) || clocks.Before(l, maxClients, last, i) {
			t.Errorf("%d and the last one: %v", i, mustClocks(t, l, maxClients)[last])
		}
	}
	want := slices.Repeat([]int{2}, maxClients)
	if want[0] = 1; !slices.Equal(mustClocks(t, l, maxClients)[last], want) {
		t.Errorf("the last clock: %v", mustClocks(t, l, maxClients)[last])
	}
}

// P11.2: numbers that are no events', and traces that are refused.
func TestBeforeOfNone(t *testing.T) {
	l := trace{by(0, kindCall, 0), by(0, kindReturn, 0), by(0, kindCall, 0)}
	for _, n := range []int{-1, 3, 4, -1 << 63, 1<<63 - 1} {
		for i := -1; i <= 3; i++ {
			if clocks.Before(l, 1, i, n) || clocks.Before(l, 1, n, i) {
				t.Errorf("%d and %d", i, n)
			}
		}
	}
	for i := range 3 {
		for j := range 3 {
			if clocks.Before(l, 1, i, j) != (i < j) {
				t.Errorf("%d and %d: ahead %v", i, j, i >= j)
			}
		}
	}
	if clocks.Before(nil, 1, 0, 0) || clocks.Before(nil, 0, 0, 1) {
		t.Error("no events: ahead")
	}
	for what, wrong := range wrongTraces() {
		if clocks.Before(wrong.l, wrong.clients, 0, 1) {
			t.Errorf("%s: ahead", what)
		}
	}
}

// P11.1: clients that have no events are counted too, and a trace of none is one.
func TestWhoIsIdle(t *testing.T) {
	if c := mustClocks(t, trace{by(1, kindCall, 0)}, maxClients); !sameClocks(c, [][]int{{0, 1, 0, 0, 0, 0, 0, 0, 0, 0, 0, 0, 0, 0, 0, 0}}) {
		t.Errorf("one of sixteen: %v", c)
	}
	for clients := range maxClients + 1 {
		for _, l := range []trace{nil, {}} {
			if c, e := clocks.Clocks(l, clients); e != api.OK || len(c) != 0 {
				t.Errorf("no events of %d clients: %v, %d", clients, c, e)
			}
			if r, e := clocks.Races(l, clients); e != api.OK || len(r) != 0 {
				t.Errorf("no events of %d clients: races %v, %d", clients, r, e)
			}
		}
	}
}
