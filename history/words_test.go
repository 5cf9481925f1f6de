package history_test

import (
	"slices"
	"testing"

	"docket/api"
	"docket/history"
	"docket/model"
)

// The words of chapter 25, written plainly: by all pairs, and all lists.

func plainEnded(x api.Call) bool { return x.Ended >= 0 }

// plainAhead: one has ended before the other began.
func plainAhead(one, other api.Call) bool { return plainEnded(one) && one.Ended < other.Began }

func plainMoments(calls []api.Call) []int {
	var l []int
	for _, x := range calls {
		for _, m := range []int{x.Began, x.Point, x.Ended} {
			if m >= 0 {
				l = append(l, m)
			}
		}
	}
	return l
}

func plainHistory(calls []api.Call) bool {
	if len(calls) > maxHistory {
		return false
	}
	for _, x := range calls {
		switch {
		case x.Began < 0, x.Ended < -1, x.Point < -1:
			return false
		case plainEnded(x) && x.Ended <= x.Began:
			return false
		case x.Point >= 0 && x.Point <= x.Began, x.Point >= 0 && plainEnded(x) && x.Point >= x.Ended:
			return false
		}
	}
	moments := plainMoments(calls)
	for i, m := range moments {
		if slices.Contains(moments[:i], m) {
			return false
		}
	}
	for i, x := range calls {
		for _, y := range calls[:i] {
			if x.Client == y.Client && !plainAhead(x, y) && !plainAhead(y, x) {
				return false
			}
		}
	}
	return true
}

// plainOrder goes by the moments that there are.
func plainOrder(calls []api.Call) []int {
	moments := plainMoments(calls)
	slices.Sort(moments)
	var l []int
	for _, m := range moments {
		for i, x := range calls {
			if x.Point == m || x.Point < 0 && plainEnded(x) && x.Began == m {
				l = append(l, i)
			}
		}
	}
	return l
}

func plainReplay(s *model.State, calls []api.Call, order []int) (int, bool) {
	for k, n := range order {
		x := calls[n]
		if x.Reply == quoted(noNodes) {
			s = s.Skip()
			continue
		}
		next, reply := s.Step(x.Client, x.Raw)
		if plainEnded(x) && x.Reply != reply {
			return k, false
		}
		s = next
	}
	return len(order), true
}

func plainApart(calls []api.Call, order []int) (int, int, bool) {
	for k, n := range order {
		for i, m := range order[:k] {
			if min(n, m) >= 0 && max(n, m) < len(calls) && plainAhead(calls[n], calls[m]) {
				return i, k, true
			}
		}
	}
	return 0, 0, false
}

func plainCheck(s *model.State, calls []api.Call) api.Verdict {
	order := plainOrder(calls)
	if k, right := plainReplay(s, calls, order); !right {
		return api.Verdict{Why: whyReply, At: order[k]}
	}
	if _, k, apart := plainApart(calls, order); apart {
		return api.Verdict{Why: whyApart, At: order[k]}
	}
	return api.Verdict{Ok: true}
}

// plainLists are all lists of numbers below n, each at most once, a beginning ahead of what goes on.
func plainLists(n int, begin []int, yield func([]int) bool) bool {
	if !yield(begin) {
		return false
	}
	for i := range n {
		if !slices.Contains(begin, i) && !plainLists(n, append(slices.Clone(begin), i), yield) {
			return false
		}
	}
	return true
}

// plainFits is whether a list is one that a search may find.
func plainFits(s *model.State, calls []api.Call, l []int) bool {
	for i, x := range calls {
		if plainEnded(x) && !slices.Contains(l, i) {
			return false
		}
	}
	for k, n := range l {
		for _, m := range l[k:] {
			if plainAhead(calls[m], calls[n]) {
				return false
			}
		}
	}
	_, right := plainReplay(s, calls, l)
	return right
}

func plainSearch(s *model.State, calls []api.Call) ([]int, bool) {
	var found []int
	all := plainLists(len(calls), nil, func(l []int) bool {
		if plainFits(s, calls, l) {
			found = l
			return false
		}
		return true
	})
	return found, !all
}

// wantWords holds all that is asked of calls against the words; it tells the verdict, and whether there is one.
func wantWords(t *testing.T, calls []api.Call) (api.Verdict, bool) {
	t.Helper()
	if !plainHistory(calls) {
		wantNoHistory(t, calls)
		return api.Verdict{}, false
	}
	s := emptyModel(t, 10)
	order := plainOrder(calls)
	wantOrder(t, calls, order...)
	v := plainCheck(s, calls)
	wantVerdict(t, calls, v.Why, v.At)
	if len(calls) <= maxSearch {
		if l, there := plainSearch(s, calls); there {
			wantFound(t, calls, l...)
		} else {
			wantLost(t, calls)
		}
	}
	return v, true
}

// P25.1 to P25.5: histories of a few calls, as they should be and spoilt, are what the words say.
func TestWords(t *testing.T) {
	right, wrong, no, found := 0, 0, 0, 0
	for seed := range int64(3000) {
		d := newDice(seed)
		calls := d.history(t, 1+d.Intn(5), 1+d.Intn(4))
		if v, _ := wantWords(t, calls); !v.Ok {
			t.Fatalf("seed %d: %+v:\n%s", seed, v, tell(calls))
		}
		for range 4 {
			calls = d.spoilt(calls)
			switch v, is := wantWords(t, calls); {
			case !is:
				no++
			case v.Ok:
				right++
			default:
				wrong++
				if _, there, _ := history.Search(10, calls); there {
					found++
				}
			}
		}
		if t.Failed() {
			t.Fatalf("seed %d", seed)
		}
	}
	if right < 2000 || wrong < 1000 || no < 2000 || found < 50 {
		t.Errorf("right %d, wrong %d, of these found %d, no history %d", right, wrong, found, no)
	}
}

// P25.5: seven calls, which are as many as are searched.
func TestWordsOfSeven(t *testing.T) {
	for seed := range int64(40) {
		d := newDice(10000 + seed)
		calls := d.history(t, maxSearch, 2+d.Intn(6))
		wantWords(t, calls)
		wantWords(t, d.spoilt(calls))
	}
}

// P25.1 to P25.4: longer histories.
func TestWordsOfMany(t *testing.T) {
	for seed := range int64(150) {
		d := newDice(20000 + seed)
		calls := d.history(t, 10+d.Intn(60), 1+d.Intn(9))
		if v, _ := wantWords(t, calls); !v.Ok {
			t.Fatalf("seed %d: %+v:\n%s", seed, v, tell(calls))
		}
		wantWords(t, d.spoilt(calls))
	}
}

// P25.2, P25.3: any order, with numbers that come again, that are missing, and for Apart also such as are none; and of any calls, a history or not.
func TestWordsOfAnyOrder(t *testing.T) {
	right, apart := 0, 0
	for seed := range int64(3000) {
		d := newDice(30000 + seed)
		calls := d.history(t, 1+d.Intn(8), 1+d.Intn(4))
		for range d.Intn(4) {
			calls = d.spoilt(calls)
		}
		order := d.Perm(len(calls))
		if d.one(2) {
			order, _ = history.Order(calls)
		}
		for range d.Intn(3) {
			if len(order) > 0 {
				order[d.Intn(len(order))] = d.Intn(len(calls))
			}
		}
		k, ok := plainReplay(emptyModel(t, 10), calls, order)
		wantReplay(t, 10, calls, order, k, ok)
		if ok {
			right++
		}
		for range d.Intn(3) {
			order = slices.Insert(order, d.Intn(len(order)+1), pick(d, -1, len(calls), -1<<63, 1<<63-1))
		}
		i, k, ok := plainApart(calls, order)
		wantApart(t, calls, order, i, k, ok)
		if ok {
			apart++
		}
	}
	if right < 300 || apart < 300 {
		t.Errorf("right %d, apart %d", right, apart)
	}
}
