package history_test

import (
	"testing"

	"docket/api"
	"docket/history"
)

// two are a collection that was made ahead of all, an insert and a get of one document.
func two(w, g api.Call) []api.Call {
	w.Client, w.Raw, w.Reply = 1, quoted(insert), quoted(inserted("a", 2))
	g.Client, g.Raw, g.Reply = 2, quoted(get), quoted(g.Reply)
	return []api.Call{call(0, 0, 1, 2, create, created), w, g}
}

// moments is a call of these, with what it was told.
func moments(began, point, ended int, reply string) api.Call {
	return api.Call{Reply: reply, Began: began, Point: point, Ended: ended}
}

// P25.4, P25.5: the document's first example.
func TestExampleOfPoints(t *testing.T) {
	calls := two(moments(12, 15, 16, ""), moments(13, 14, 17, none))
	wantOrder(t, calls, 0, 2, 1)
	wantVerdict(t, calls, whyNone, 0)
	wantFound(t, calls, 0, 2, 1)
	calls = two(moments(12, 15, 16, ""), moments(13, 14, 17, found))
	wantVerdict(t, calls, whyReply, 2)
	wantFound(t, calls, 0, 1, 2)
}

// P25.4, P25.5: the second: a get that begins behind the insert's end.
func TestExampleOfOneBehindTheOther(t *testing.T) {
	calls := two(moments(12, 13, 14, ""), moments(15, 16, 17, none))
	wantVerdict(t, calls, whyReply, 2)
	wantLost(t, calls)
	calls = two(moments(12, 13, 14, ""), moments(15, 16, 17, found))
	wantVerdict(t, calls, whyNone, 0)
	wantFound(t, calls, 0, 1, 2)
}

// P25.4, P25.5: the third: an insert that pends.
func TestExampleOfPending(t *testing.T) {
	w := moments(12, 13, -1, "")
	calls := two(w, moments(14, 15, 16, found))
	wantVerdict(t, calls, whyNone, 0)
	wantFound(t, calls, 0, 1, 2)
	w.Point = -1
	calls = two(w, moments(14, 15, 16, found))
	wantOrder(t, calls, 0, 2)
	wantVerdict(t, calls, whyReply, 2)
	wantFound(t, calls, 0, 1, 2)
	calls = two(w, moments(14, 15, 16, none))
	wantVerdict(t, calls, whyNone, 0)
	wantFound(t, calls, 0, 2)
}

// P25.4, P25.5: the fourth: two calls of one client at one time.
func TestExampleOfOneClient(t *testing.T) {
	calls := two(moments(12, 15, 16, ""), moments(13, 14, 17, none))
	calls[1].Client = 2
	wantNoHistory(t, calls)
	calls[1].Client = 0
	wantVerdict(t, calls, whyNone, 0)
}

// P25.1: by points, and those without one that have ended by their beginnings; those that pend without one do not count.
func TestOrder(t *testing.T) {
	wantOrder(t, nil)
	wantOrder(t, []api.Call{})
	wantOrder(t, bare([3]int{0, 1, 2}), 0)
	wantOrder(t, bare([3]int{0, -1, 1}), 0)
	wantOrder(t, bare([3]int{0, 1, -1}), 0)
	wantOrder(t, bare([3]int{0, -1, -1}))
	wantOrder(t, bare([3]int{0, 7, 8}, [3]int{1, 6, 9}, [3]int{2, 5, -1}, [3]int{3, -1, -1}, [3]int{4, -1, 10}), 4, 2, 1, 0)
	wantOrder(t, bare([3]int{4, -1, 10}, [3]int{0, 7, 8}, [3]int{3, -1, -1}, [3]int{2, 5, -1}, [3]int{1, 6, 9}), 0, 3, 4, 1)
	wantOrder(t, bare([3]int{5, -1, 100}, [3]int{0, 90, 91}, [3]int{4, 80, -1}), 0, 2, 1)
	wantOrder(t, bare([3]int{0, 1, 2}, [3]int{3, 1<<63 - 2, 1<<63 - 1}, [3]int{4, 5, 6}), 0, 2, 1)
}

// P25.1: what makes a list no history, and what is just one yet.
func TestNoHistory(t *testing.T) {
	for _, l := range [][][3]int{
		{{-1, 1, 2}}, {{-1, -1, -1}}, {{-1 << 63, 1, 2}}, // Began
		{{0, 1, -2}}, {{0, -1, -1 << 63}}, {{0, -2, 2}}, {{0, -1 << 63, 2}}, {{0, -2, -1}}, // Ended and Point
		{{0, -1, 0}}, {{1, -1, 0}}, {{5, 6, 4}}, {{5, -1, 5}}, // ended where it begins, or ahead of it
		{{3, 3, 5}}, {{3, 2, 5}}, {{3, 3, -1}}, {{3, 0, -1}}, {{3, 0, 5}}, // the point ahead of the beginning
		{{3, 5, 5}}, {{3, 6, 5}}, // the point behind the end
		{{0, 1, 2}, {2, 3, 4}}, {{0, 1, 5}, {1, 3, 4}}, {{0, 3, 5}, {1, 3, 4}}, {{0, -1, 5}, {1, -1, 5}}, {{0, 1, 4}, {2, 4, 5}}, {{0, 1, 2}, {0, 3, 4}}, {{0, -1, -1}, {0, -1, -1}}, // moments that are alike
	} {
		wantNoHistory(t, bare(l...))
		wantNoHistory(t, append(bare(l...), call(50, 90, 91, 92, "", wrong)))
		wantNoHistory(t, append([]api.Call{call(50, 90, 91, 92, "", wrong)}, bare(l...)...))
	}
	for _, l := range [][][3]int{{{0, 1, 2}, {3, 4, 5}}, {{0, 5, 6}, {1, 2, 3}}, {{0, -1, -1}, {1, -1, -1}, {2, -1, -1}}, {{0, -1, 1}}} {
		if _, e := history.Order(bare(l...)); e != isOK {
			t.Errorf("%v: %d", l, e)
		}
	}
}

// P25.1: two calls of one client, wherever in the list: one has ended before the other begins.
func TestOneClient(t *testing.T) {
	of := func(client int, moments ...[3]int) []api.Call {
		l := bare(moments...)
		for i := range l {
			l[i].Client = client
		}
		return l
	}
	for _, client := range []int{0, 7, -1, 1 << 62} {
		wantOrder(t, of(client, [3]int{0, 1, 2}, [3]int{3, 4, 5}), 0, 1)
		wantOrder(t, of(client, [3]int{3, 4, 5}, [3]int{0, 1, 2}), 1, 0)
		wantOrder(t, of(client, [3]int{3, 4, -1}, [3]int{0, 1, 2}), 1, 0)
		wantNoHistory(t, of(client, [3]int{0, 1, 5}, [3]int{3, 4, 6}))
		wantNoHistory(t, of(client, [3]int{0, 1, 6}, [3]int{3, 4, 5}))
		wantNoHistory(t, of(client, [3]int{3, 4, 5}, [3]int{0, 1, -1}))
		wantNoHistory(t, of(client, [3]int{0, -1, -1}, [3]int{1, -1, -1}))
		wantNoHistory(t, of(client, [3]int{20, 21, 22}, [3]int{0, 1, 9}, [3]int{10, 11, 12}, [3]int{8, 13, 14}))
		wantNoHistory(t, append(of(client, [3]int{0, 1, 9}, [3]int{8, 13, 14}), of(client+1, [3]int{2, 3, 4})...))
		wantOrder(t, append(of(client, [3]int{0, 1, 9}, [3]int{10, 13, 14}), of(client+1, [3]int{2, 3, -1})...), 0, 2, 1)
	}
}

// P25.2: the first call that has ended and was told something else; what pends goes its way.
func TestReplay(t *testing.T) {
	calls := []api.Call{
		call(0, 0, 1, 2, create, created),
		call(1, 3, 4, 5, insert, inserted("a", 2)),
		call(2, 6, 7, 8, get, found),
		call(3, 9, 10, 11, get, none),
		call(4, 12, 13, -1, get, ""),
		call(5, 14, 15, 16, "", wrong),
	}
	wantReplay(t, 10, calls, nil, 0, true)
	wantReplay(t, 10, calls, []int{0, 1, 2}, 3, true)
	wantReplay(t, 10, calls, []int{0, 3, 1, 2}, 4, true)
	wantReplay(t, 10, calls, []int{0, 1, 2, 3}, 3, false)
	wantReplay(t, 10, calls, []int{0, 2, 3}, 1, false)
	wantReplay(t, 10, calls, []int{1, 0}, 0, false)
	wantReplay(t, 10, calls, []int{4, 0, 4, 5, 5, 4, 1, 4, 2, 2, 2}, 11, true)
	wantReplay(t, 10, calls, []int{0, 0}, 1, false)
	calls[1].Ended, calls[1].Reply = -1, "anything"
	wantReplay(t, 10, calls, []int{0, 1, 2}, 3, true)
	calls[1].Ended = 0
	wantReplay(t, 10, calls, []int{0, 1, 2}, 1, false)
	calls[1].Ended = -7 // no history; yet a call that pends
	wantReplay(t, 10, calls, []int{0, 1, 2}, 3, true)
}

// P25.2: to whom it was told that there is no node, that one's call is a stamp and nothing else, whatever it asks.
func TestReplaySkips(t *testing.T) {
	calls := []api.Call{
		call(0, 0, 1, 2, create, created),
		call(1, 3, 4, 5, insert, noNodes),
		call(2, 6, 7, 8, get, none),
		call(1, 9, 10, 11, insert, inserted("a", 3)),
		call(3, 12, 13, 14, get, noNodes),
		call(1, 15, 16, 17, "{'op':'replace','in':'c','id':'a','value':{'n':1}}", "{'ok':true,'version':5,'changed':true}"),
		call(4, 18, 19, -1, "{'op':'delete','in':'c','id':'a'}", noNodes),
		call(5, 20, 21, 22, "{'op':'count','in':'c'}", "{'ok':true,'stamp':6,'count':1}"),
		call(6, 23, 24, 25, "", noNodes),
		call(7, 26, 27, 28, "{'op':'count','in':'c'}", "{'ok':true,'stamp':7,'count':1}"),
	}
	wantReplay(t, 10, calls, []int{0, 1, 2, 3, 4, 5, 6, 7, 8, 9}, 10, true)
	wantVerdict(t, calls, whyNone, 0)
	calls[1].Reply = quoted("{'ok':false,'error':'nodes','at':0}") // a place more: another text
	wantReplay(t, 10, calls, []int{0, 1, 2, 3}, 1, false)
}

// P25.2: each call is its client's: cursors and ids are.
func TestReplayOfClients(t *testing.T) {
	open, next := "{'op':'open','in':'c'}", "{'op':'next','cursor':1}"
	opened, page := "{'ok':true,'cursor':1,'stamp':1}", "{'ok':true,'docs':[],'done':true}"
	calls := []api.Call{
		call(0, 0, 1, 2, create, created),
		call(8, 3, 4, 5, open, opened),
		call(9, 6, -1, 7, next, none),
		call(8, 8, -1, 9, next, page),
		call(9, 10, 11, 12, open, opened),
	}
	wantVerdict(t, calls, whyNone, 0)
	calls[2].Client = 8
	wantVerdict(t, calls, whyReply, 2)
}

// P25.2: a log keeps so many changes as is said, and no more.
func TestReplayKeeps(t *testing.T) {
	calls := []api.Call{
		call(0, 0, 1, 2, create, created),
		call(0, 3, 4, 5, insert, inserted("a", 2)),
		call(0, 6, 7, 8, "{'op':'delete','in':'c','id':'a'}", "{'ok':true,'version':3}"),
		call(0, 9, 10, 11, "{'op':'changes','after':1,'limit':1}", "{'ok':true,'stamp':3,'changes':[{'stamp':2,'in':'c','id':'a','kind':'insert'}],'next':2}"),
	}
	wantReplay(t, 2, calls, []int{0, 1, 2, 3}, 4, true)
	wantReplay(t, 1, calls, []int{0, 1, 2, 3}, 3, false)
	wantReplay(t, maxKeep, calls, []int{0, 1, 2, 3}, 4, true)
	if v, e := history.Check(2, calls); !v.Ok || e != isOK {
		t.Error(v, e)
	}
	if v, e := history.Check(1, calls); v != (api.Verdict{Why: whyReply, At: 3}) || e != isOK {
		t.Error(v, e)
	}
	if l, there, e := history.Search(2, calls); len(l) != 4 || !there || e != isOK {
		t.Error(l, there, e)
	}
	if l, there, e := history.Search(1, calls); l != nil || there || e != isOK {
		t.Error(l, there, e)
	}
}

// P25.3: the least k, of it the least i.
func TestApart(t *testing.T) {
	calls := bare([3]int{0, 1, 2}, [3]int{3, 4, 5}, [3]int{6, 7, 8}, [3]int{1, 5, 9}, [3]int{10, 11, -1}, [3]int{9, 10, 11})
	wantApart(t, calls, nil, 0, 0, false)
	wantApart(t, calls, []int{0, 1, 2, 4}, 0, 0, false)
	wantApart(t, calls, []int{1, 0}, 0, 1, true)
	wantApart(t, calls, []int{2, 1, 0}, 0, 1, true)
	wantApart(t, calls, []int{1, 2, 0}, 0, 2, true)
	wantApart(t, calls, []int{2, 3, 1, 0}, 0, 2, true)
	wantApart(t, calls, []int{3, 1, 2, 0}, 1, 3, true)
	wantApart(t, calls, []int{3, 0, 2, 1}, 2, 3, true)
	wantApart(t, calls, []int{4, 3}, 0, 1, true)
	wantApart(t, calls, []int{3, 4}, 0, 0, false)
	wantApart(t, calls, []int{5, 3}, 0, 0, false) // one ended at the very moment: no history, and not ahead
	wantApart(t, calls, []int{4, 4, 4}, 0, 0, false)
	wantApart(t, calls, []int{1, 1, 0, 0}, 0, 2, true)
	wantApart(t, calls, []int{0, 1, 0}, 1, 2, true)
	wantApart(t, bare([3]int{7, 1, 3}), []int{0, 0, 0}, 0, 1, true) // none of a history, ended before it began
	wantApart(t, bare([3]int{1, 1, 0}), []int{0}, 0, 0, false)
	wantApart(t, bare([3]int{1, -1, -1}, [3]int{0, -1, 0}), []int{0, 1}, 0, 1, true)
	wantApart(t, bare([3]int{1, -1, -1}, [3]int{0, -1, -5}), []int{0, 1}, 0, 0, false)
}

// P25.3: numbers that are none of a call are passed over, and keep their places.
func TestApartPassesOver(t *testing.T) {
	calls := bare([3]int{0, 1, 2}, [3]int{3, 4, 5})
	wantApart(t, calls, []int{2, -1, 1, 7, 0, 1 << 62}, 2, 4, true)
	wantApart(t, calls, []int{2, -1, 0, 7, 1, 1 << 62}, 0, 0, false)
	wantApart(t, nil, []int{0, 1, -1}, 0, 0, false)
}

// P25.4: of a reply that is another and of calls that are apart the reply is told; no order of points is apart, so the second is asked of other ones.
func TestJudge(t *testing.T) {
	calls := []api.Call{
		call(4, 30, 31, 32, "", wrong),
		call(0, 0, 1, 2, create, created),
		call(1, 3, 4, 5, insert, inserted("a", 2)),
		call(2, 6, 7, 8, get, found),
		call(3, 9, 10, 11, "", wrong),
	}
	for _, c := range []struct {
		order   []int
		why, at int
	}{
		{[]int{1, 2, 3, 4, 0}, whyNone, 0},
		{[]int{4, 1, 2, 3}, whyApart, 1},
		{[]int{1, 4, 2, 3}, whyApart, 2},
		{[]int{1, 2, 4, 3}, whyApart, 3},
		{[]int{1, 2, 3, 0, 4}, whyApart, 4},
		{[]int{4, 1, 3, 2}, whyReply, 3},
		{[]int{2, 1, 3, 2}, whyReply, 2},
	} {
		want := api.Verdict{Ok: c.why == whyNone, Why: c.why, At: c.at}
		if v, e := history.Judge(10, calls, c.order); v != want || e != isOK {
			t.Errorf("%v: %+v, %d", c.order, v, e)
		}
	}
}

// P25.4: the first fault is told, by the order of the points, and by its number in the list.
func TestCheckTellsTheFirst(t *testing.T) {
	calls := []api.Call{
		call(5, 30, 31, 32, get, none),
		call(1, 3, 10, 11, insert, inserted("a", 2)),
		call(0, 0, 1, 2, create, created),
		call(2, 6, 7, 8, get, found),
	}
	wantVerdict(t, calls, whyReply, 3)
	calls[3].Reply = quoted(none)
	wantVerdict(t, calls, whyReply, 0)
	calls[0].Reply = quoted(found)
	wantVerdict(t, calls, whyNone, 0)
	wantVerdict(t, nil, whyNone, 0)
	wantVerdict(t, bare([3]int{0, -1, -1}), whyNone, 0)
	wantVerdict(t, bare([3]int{5, -1, 6}), whyNone, 0)
}

// P25.5: where several lists fit it is the first, a beginning ahead of what goes on: so what pends is in it only where it is needed, or where it is first.
func TestSearchTellsTheFirst(t *testing.T) {
	wantFound(t, nil)
	wantFound(t, bare([3]int{0, -1, -1}, [3]int{1, 2, -1}))
	wantFound(t, bare([3]int{0, -1, 10}, [3]int{1, 8, 9}, [3]int{2, 4, 5}), 0, 1, 2)
	wantFound(t, bare([3]int{2, 4, 5}, [3]int{0, -1, -1}, [3]int{1, 8, 9}), 0, 1, 2)
	wantFound(t, bare([3]int{2, 4, 5}, [3]int{1, 8, 9}, [3]int{0, -1, -1}), 0, 1)
	wantFound(t, bare([3]int{0, -1, -1}, [3]int{2, 4, 5}, [3]int{1, 8, 9}), 0, 1, 2)
	wantFound(t, bare([3]int{6, 7, 8}, [3]int{3, 4, 5}, [3]int{0, 1, 2}), 2, 1, 0)
	wantFound(t, bare([3]int{6, 7, -1}, [3]int{3, 4, 5}, [3]int{0, 1, 2}), 2, 1)
	wantFound(t, bare([3]int{3, 7, -1}, [3]int{4, 5, 8}, [3]int{0, 1, 2}), 2, 0, 1)
}

// P25.5: a call that pends is in the list where a reply needs it, with a point or without; behind what had ended before it began.
func TestSearchTakesPending(t *testing.T) {
	for _, point := range []int{-1, 6} {
		calls := []api.Call{
			call(0, 0, 1, 2, create, created),
			call(2, 7, 8, 9, get, found),
			call(1, 5, point, -1, insert, ""),
		}
		wantFound(t, calls, 0, 2, 1)
		calls[2].Began, calls[2].Point = 10, -1
		wantLost(t, calls)
		calls[1].Reply = quoted(none)
		wantFound(t, calls, 0, 1)
	}
}

// P25.5: a call that was told ErrNodes is a stamp in the list too.
func TestSearchSkips(t *testing.T) {
	calls := []api.Call{
		call(0, 0, 1, 2, create, created),
		call(1, 3, 4, 9, insert, inserted("a", 3)),
		call(2, 5, 6, 7, "{'op':'delete','in':'c','id':'a'}", noNodes),
	}
	wantFound(t, calls, 0, 2, 1)
	calls[1].Reply = quoted(inserted("a", 2))
	wantFound(t, calls, 0, 1, 2)
	calls[1].Reply = quoted(inserted("a", 4))
	wantLost(t, calls)
}

// P25.5: of seven that go on at one time the one order that fits is found: each adds one, and was told how often that had been done.
func TestSearchOfSeven(t *testing.T) {
	inc := "{'op':'modify','in':'c','id':'a','ops':{'$inc':{'n':1}},'upsert':true,'new':true}"
	told := []string{
		"{'ok':true,'version':4,'changed':true,'fresh':false,'value':{'n':3}}",
		"{'ok':true,'version':7,'changed':true,'fresh':false,'value':{'n':6}}",
		"{'ok':true,'version':2,'changed':true,'fresh':true,'value':{'n':1}}",
		"{'ok':true,'version':6,'changed':true,'fresh':false,'value':{'n':5}}",
		created,
		"{'ok':true,'version':5,'changed':true,'fresh':false,'value':{'n':4}}",
		"{'ok':true,'version':3,'changed':true,'fresh':false,'value':{'n':2}}",
	}
	var calls []api.Call
	for n, reply := range told {
		calls = append(calls, call(n, n, -1, 20+n, inc, reply))
	}
	calls[4].Raw = quoted(create)
	wantFound(t, calls, 4, 2, 6, 0, 5, 3, 1)
	calls[1].Ended, calls[1].Reply = -1, ""
	wantFound(t, calls, 4, 2, 6, 0, 5, 3)
	calls[2].Reply = quoted("{'ok':true,'version':7,'changed':true,'fresh':false,'value':{'n':6}}")
	wantFound(t, calls, 4, 1, 6, 0, 5, 3, 2)
	calls[3].Reply = calls[5].Reply
	wantLost(t, calls)
}
