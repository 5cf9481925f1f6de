package history_test

import (
	"slices"
	"strings"
	"testing"

	"docket/api"
	"docket/history"
)

// many are so many calls without a word, one behind the other.
func many(n int) []api.Call {
	var l []api.Call
	for i := range n {
		l = append(l, call(i%5, 3*i, 3*i+1, 3*i+2, "", wrong))
	}
	return l
}

// P25.1, P25.4: just so many calls are a history, and not one more.
func TestMaxHistory(t *testing.T) {
	l := many(maxHistory)
	order, e := history.Order(l)
	if len(order) != maxHistory || order[0] != 0 || order[maxHistory-1] != maxHistory-1 || e != isOK {
		t.Error(len(order), e)
	}
	wantReplay(t, 10, l, order, maxHistory, true)
	wantVerdict(t, l, whyNone, 0)
	l = many(maxHistory + 1)
	wantNoHistoryOf(t, l)
	for i := range l {
		l[i].Point, l[i].Ended, l[i].Client = -1, -1, i // none of them would count
	}
	wantNoHistoryOf(t, l)
	wantReplay(t, 10, l, []int{maxHistory}, 1, true) // Replay and Apart do not ask for one
	wantApart(t, many(maxHistory+1), []int{maxHistory, 0}, 0, 1, true)
}

// wantNoHistoryOf is wantNoHistory of a list that is too long to be told.
func wantNoHistoryOf(t *testing.T, l []api.Call) {
	t.Helper()
	order, e := history.Order(l)
	v, f := history.Check(10, l)
	found, there, g := history.Search(10, l)
	if order != nil || e != isHistory || v != (api.Verdict{}) || f != isHistory || found != nil || there || g != isHistory {
		t.Error(len(order), e, v, f, found, there, g)
	}
}

// P25.1: of many calls one moment that is met again, or one client that is busy, is found wherever it is.
func TestOneFaultInMany(t *testing.T) {
	for _, k := range []int{0, 1, 700, maxHistory - 1} {
		l := many(maxHistory)
		l[k].Began = l[(k+9)%maxHistory].Point
		l[k].Point, l[k].Ended = -1, -1
		wantNoHistoryOf(t, l)
		l = many(maxHistory)
		l[k].Point, l[k].Ended, l[k].Client = -1, -1, 7
		if _, e := history.Order(l); e != isOK {
			t.Error(k, e)
		}
		if l[k].Client = k % 5; k < maxHistory-5 {
			wantNoHistoryOf(t, l)
		}
	}
}

// P25.2, P25.3: long orders take no time that grows by pairs.
func TestLongOrders(t *testing.T) {
	l := many(maxHistory)
	order := make([]int, 0, 3*maxHistory)
	for range 3 {
		for i := range l {
			order = append(order, i)
		}
	}
	wantApart(t, l, order, 1, maxHistory, true)
	wantApart(t, l, slices.Repeat([]int{0}, 3*maxHistory), 0, 0, false)
	for i := range l {
		l[i].Ended = -1
	}
	wantApart(t, l, order, 0, 0, false)
	wantReplay(t, 1, l, order, len(order), true)
}

// P25.2: watch.New's error of keep, and ahead of it nothing.
func TestKeep(t *testing.T) {
	l := many(3)
	for _, keep := range []int{0, -1, -1 << 63, maxKeep + 1, 1<<63 - 1} {
		for _, order := range [][]int{nil, {0}, {3}, {-1}} {
			if k, right, e := history.Replay(keep, l, order); k != 0 || right || e != isArg {
				t.Error(keep, order, k, right, e)
			}
		}
		if v, e := history.Check(keep, l); v != (api.Verdict{}) || e != isArg {
			t.Error(keep, v, e)
		}
		if got, there, e := history.Search(keep, l); got != nil || there || e != isArg {
			t.Error(keep, got, there, e)
		}
		if v, e := history.Check(keep, nil); v != (api.Verdict{}) || e != isArg {
			t.Error(keep, v, e)
		}
		if got, there, e := history.Search(keep, nil); got != nil || there || e != isArg {
			t.Error(keep, got, there, e)
		}
	}
	for _, keep := range []int{1, maxKeep} {
		wantReplay(t, keep, l, []int{0, 1, 2}, 3, true)
		if _, there, e := history.Search(keep, l); !there || e != isOK {
			t.Error(keep, there, e)
		}
	}
}

// P25.2: a number that is none of a call, wherever it stands, also behind a reply that is another.
func TestReplayOfNone(t *testing.T) {
	l := many(3)
	l[0].Reply = "another"
	for _, order := range [][]int{{3}, {-1}, {0, 3}, {1, 2, -1}, {1, 1 << 62, 2}, {-1 << 63}} {
		if k, right, e := history.Replay(10, l, order); k != 0 || right || e != isArg {
			t.Error(order, k, right, e)
		}
		if k, right, e := history.Replay(10, nil, order); k != 0 || right || e != isArg {
			t.Error(order, k, right, e)
		}
	}
	wantReplay(t, 10, nil, nil, 0, true)
	wantReplay(t, 10, l, []int{2, 1, 0}, 2, false)
}

// P25.5: its errors in their order: no history, too many calls, keep.
func TestSearchRefuses(t *testing.T) {
	for _, n := range []int{maxSearch + 1, 100, maxHistory} {
		for _, keep := range []int{0, 10} {
			if got, there, e := history.Search(keep, many(n)); got != nil || there || e != isSearch {
				t.Error(n, keep, got, there, e)
			}
		}
	}
	l := many(maxSearch + 1)
	l[3].Ended = l[3].Began
	wantNoHistory(t, l)
	l = many(maxSearch)
	wantFound(t, l, 0, 1, 2, 3, 4, 5, 6)
	for i := range l {
		l[i].Point, l[i].Ended, l[i].Client = -1, -1, i
	}
	wantFound(t, l)
	if got, there, e := history.Search(10, append(l, call(9, 100, -1, -1, "", ""))); got != nil || there || e != isSearch { // the ones that do not count are counted too
		t.Error(got, there, e)
	}
}

// P25.4: of no history the errors come in their order.
func TestCheckRefuses(t *testing.T) {
	l := many(2)
	l[1].Client, l[1].Began = l[0].Client, 1
	if v, e := history.Check(0, l); v != (api.Verdict{}) || e != isHistory {
		t.Error(v, e)
	}
}

// Rule 1: whatever the calls ask, and were told.
func TestOddCalls(t *testing.T) {
	for _, raw := range []string{"", "{", "null", "\x00\xff", strings.Repeat("[", 100000), strings.Repeat("x", 200000), quoted("{'op':'txn','steps':[{}]}"), quoted("{'op':'next','cursor':-1}")} {
		for _, client := range []int{0, -1, -1 << 63, 1<<63 - 1} {
			l := []api.Call{{Client: client, Raw: raw, Reply: "no", Began: 0, Point: 1, Ended: 2}}
			wantReplay(t, 10, l, []int{0}, 0, false)
			if v, e := history.Check(10, l); v != (api.Verdict{Why: whyReply}) || e != isOK {
				t.Error(v, e)
			}
			l[0].Ended = -1
			if v, e := history.Check(10, l); v != (api.Verdict{Ok: true}) || e != isOK {
				t.Error(v, e)
			}
		}
	}
}

// P25.5: stamps have no part in anything.
func TestStampsHaveNoPart(t *testing.T) {
	for seed := range int64(100) {
		d := newDice(110000 + seed)
		calls := d.spoilt(d.history(t, 1+d.Intn(6), 3))
		l := slices.Clone(calls)
		for i := range l {
			l[i].Stamp = int64(d.Intn(9)) - 4
		}
		wantSame(t, "other stamps", calls, l, func(n int) int { return n })
		a, b, e := history.Search(10, calls)
		if c, d, f := history.Search(10, l); !slices.Equal(a, c) || b != d || e != f {
			t.Errorf("%v, %v, %d, but %v, %v, %d", a, b, e, c, d, f)
		}
	}
}

// P25.5: nor has a point, where the search is asked: but that it is where it may be.
func TestPointsHaveNoPartInSearch(t *testing.T) {
	for seed := range int64(300) {
		d := newDice(120000 + seed)
		calls := d.history(t, 1+d.Intn(6), 3)
		l := slices.Clone(calls)
		for i := range l {
			if d.one(2) {
				l[i].Point = -1
			}
		}
		a, b, e := history.Search(10, calls)
		if c, d, f := history.Search(10, l); !slices.Equal(a, c) || b != d || e != f {
			t.Errorf("%v, %v, %d, but %v, %v, %d:\n%s", a, b, e, c, d, f, tell(calls))
		}
	}
}

// Rule 3: what is handed in stays as it is, and what is answered is new.
func TestLeavesItsArguments(t *testing.T) {
	d := newDice(130000)
	for range 100 {
		calls := d.history(t, 6, 3)
		room := append(slices.Clone(calls), api.Call{Raw: "room"})[:6]
		was := slices.Clone(room)
		order := append([]int{0, 1, 2, 3, 4, 5}, 77)[:6]
		one, _ := history.Order(room)
		two, _ := history.Order(room)
		history.Replay(10, room, order)
		history.Apart(room, order)
		history.Check(10, room)
		a, _, _ := history.Search(10, room)
		b, _, _ := history.Search(10, room)
		for _, l := range [][]int{one, a} {
			l = l[:cap(l)]
			for i := range l {
				l[i] = -5
			}
		}
		if !slices.Equal(was, room) || room[:7][6].Raw != "room" || !slices.Equal(order[:7], []int{0, 1, 2, 3, 4, 5, 77}) || slices.Contains(two, -5) || slices.Contains(b, -5) {
			t.Fatal(room, order, two, b)
		}
		if again, _ := history.Order(room); !slices.Equal(again, two) {
			t.Fatal(again, two)
		}
	}
}
