package clocks_test

import (
	"slices"
	"testing"

	"docket/clocks"
)

// The chapter's examples.
func TestExamples(t *testing.T) {
	locked := trace{by(0, kindLock, a), by(0, kindSet, x), by(0, kindUnlock, a), by(1, kindLock, a), by(1, kindGet, x), by(1, kindUnlock, a)}
	wantRaces(t, "1, under a lock", locked, 2)
	if c := mustClocks(t, locked, 2); !slices.Equal(c[5], []int{3, 3}) {
		t.Errorf("1: the last clock is %v", c[5])
	}
	wantRaces(t, "1, without", trace{by(0, kindSet, x), by(1, kindGet, x)}, 2, race{First: 0, Second: 1})

	set, store, load, get := by(0, kindSet, x), by(0, kindStore, f), by(1, kindLoad, f), by(1, kindGet, x)
	wantRaces(t, "2, handed on", trace{set, store, load, get}, 2)
	wantRaces(t, "2, too early", trace{set, store, get, load}, 2, race{First: 0, Second: 2})
	wantRaces(t, "2, another's store", trace{set, store, by(2, kindStore, f), load, get}, 3, race{First: 0, Second: 4})
	wantRaces(t, "3", trace{set, by(0, kindAdd, f), by(2, kindAdd, f), load, get}, 3)

	wantRaces(t, "4, a reader and a writer", trace{by(0, kindRLock, a), by(0, kindGet, x), by(0, kindRUnlock, a), by(1, kindLock, a), by(1, kindSet, x)}, 2)
	wantRaces(t, "4, a reader that writes", trace{by(0, kindRLock, a), by(0, kindSet, x), by(0, kindRUnlock, a), by(1, kindRLock, a), by(1, kindGet, x)}, 2, race{First: 1, Second: 4})
}

// P11.3: two events of one thing race just if both use a cell, and at least one writes.
func TestWhichKindsRace(t *testing.T) {
	for i := kindLock; i <= kindReturn; i++ {
		for j := kindLock; j <= kindReturn; j++ {
			var want []race
			if i == kindSet && (j == kindGet || j == kindSet) || i == kindGet && j == kindSet {
				want = []race{{First: 0, Second: 1}}
			}
			l := trace{event(0, i, 5, 6), event(1, j, 5, 6)}
			if r := mustRaces(t, l, 2); !slices.Equal(r, want) {
				t.Errorf("kind %d, kind %d: races %v", i, j, r)
			}
			for _, other := range [][2]int{{5, 7}, {7, 6}, {6, 5}, {5, 6 + 1<<32}, {5 + 1<<32, 6}} {
				l[1] = event(1, j, other[0], other[1])
				wantRaces(t, "of two things", l, 2)
			}
			l[1] = event(0, j, 5, 6)
			wantRaces(t, "of one client", l, 2)
		}
	}
}

// P11.3: each event is told once, with the first that it races with; and all that race are told.
func TestFirstOfSeveral(t *testing.T) {
	set, get := kindSet, kindGet
	for _, row := range []struct {
		name string
		l    trace
		want []race
	}{
		{"three writers", trace{by(0, set, x), by(1, set, x), by(2, set, x)}, []race{{First: 0, Second: 1}, {First: 0, Second: 2}}},
		{"a reader of two writers", trace{by(2, set, x), by(1, set, x), by(0, get, x)}, []race{{First: 0, Second: 1}, {First: 0, Second: 2}}},
		{"a reader passes readers over", trace{by(1, get, x), by(2, set, x), by(0, get, x)}, []race{{First: 0, Second: 1}, {First: 1, Second: 2}}},
		{"a writer meets readers", trace{by(1, get, x), by(2, get, x), by(0, set, x)}, []race{{First: 0, Second: 2}}},
		{"a reader first, then a writer, of one client", trace{by(1, get, x), by(1, set, x), by(0, get, x), by(0, set, x)}, []race{{First: 1, Second: 2}, {First: 0, Second: 3}}},
		{"its own are passed over", trace{by(0, set, x), by(1, set, x), by(0, set, x)}, []race{{First: 0, Second: 1}, {First: 1, Second: 2}}},
		{"the same two again", trace{by(0, set, x), by(1, get, x), by(1, get, x)}, []race{{First: 0, Second: 1}, {First: 0, Second: 2}}},
		{"what is ahead is passed over", trace{by(0, set, x), by(0, kindUnlock, a), by(0, set, x), by(1, kindLock, a), by(1, set, x)}, []race{{First: 2, Second: 4}}},
		{"of two cells", trace{by(0, set, x), by(0, set, f), by(1, get, f), by(1, get, x)}, []race{{First: 1, Second: 2}, {First: 0, Second: 3}}},
		{"the later client came first", trace{by(2, set, x), by(2, kindUnlock, a), by(0, kindLock, a), by(0, set, x), by(1, get, x)}, []race{{First: 0, Second: 4}}},
		{"one is ahead, another is not", trace{by(2, set, x), by(2, kindUnlock, a), by(0, set, x), by(1, kindLock, a), by(1, get, x)}, []race{{First: 0, Second: 2}, {First: 2, Second: 4}}},
	} {
		wantRaces(t, row.name, row.l, 3, row.want...)
	}
}

// P11.3: the greatest number of clients: each races with the first one, and it with the second.
func TestRacesOfAll(t *testing.T) {
	var l trace
	var want []race
	for i := range 3 * maxClients {
		l = append(l, by(maxClients-1-i%maxClients, kindSet, x))
		switch {
		case i == 0:
		case i%maxClients == 0:
			want = append(want, race{First: 1, Second: i})
		default:
			want = append(want, race{First: 0, Second: i})
		}
	}
	wantRaces(t, "all at one cell", l, maxClients, want...)
}

// P11.4: the last set in front of it, whoever made it, whether it races or not.
func TestSees(t *testing.T) {
	l := trace{
		by(0, kindGet, x), // sees nothing: what it was at first
		by(0, kindSet, x),
		by(1, kindGet, x),
		by(1, kindSet, x),
		by(1, kindSet, f),
		event(1, kindSet, x, 1),
		by(2, kindStore, x),
		by(2, kindAdd, x),
		by(0, kindGet, x),
		by(0, kindGet, x),
		by(2, kindSet, x),
		by(2, kindGet, f),
		by(2, kindGet, a),
		event(0, kindGet, 7, 1),
		event(0, kindGet, 1, x),
		event(0, kindGet, x, 1),
	}
	want := map[int]int{2: 1, 8: 3, 9: 3, 11: 4, 15: 5}
	for j := -2; j <= len(l)+1; j++ {
		i, there := clocks.Sees(l, 3, j)
		n, sees := want[j]
		if i != n || there != sees {
			t.Errorf("%d: sees %d, %v; want %d, %v", j, i, there, n, sees)
		}
	}
	for _, j := range []int{-1 << 63, 1<<63 - 1} {
		if i, there := clocks.Sees(l, 3, j); i != 0 || there {
			t.Errorf("%d: sees %d, %v", j, i, there)
		}
	}
	if i, there := clocks.Sees(nil, 3, 0); i != 0 || there {
		t.Errorf("no events: sees %d, %v", i, there)
	}
}

// P11.4: only a StepGet sees, and only a StepSet is seen.
func TestWhichKindsSee(t *testing.T) {
	for i := kindLock; i <= kindReturn; i++ {
		for j := kindLock; j <= kindReturn; j++ {
			for client := range 2 {
				l := trace{by(1, kindCall, 0), by(0, i, x), by(client, j, x)}
				n, there := clocks.Sees(l, 2, 2)
				if want := i == kindSet && j == kindGet; there != want || (n == 1) != want || n > 1 {
					t.Errorf("kind %d, kind %d: sees %d, %v", i, j, n, there)
				}
			}
		}
	}
	first := trace{by(0, kindSet, x), by(1, kindGet, x)}
	if i, there := clocks.Sees(first, 2, 1); i != 0 || !there {
		t.Errorf("the first event: sees %d, %v", i, there)
	}
}
