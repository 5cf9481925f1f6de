package model_test

import (
	"fmt"
	"slices"
	"strings"
	"testing"

	"docket/api"
	"docket/cursor"
	"docket/model"
	"docket/request"
)

// P23.7
func TestNew(t *testing.T) {
	for _, keep := range []int{0, -1, maxKeep + 1, -1 << 63, 1<<63 - 1} {
		if s, e := model.New(keep); s != nil || e != isArg {
			t.Error(keep, s, e)
		}
	}
	for _, keep := range []int{1, 2, maxKeep} {
		s := empty(t, keep)
		if s.Stamp() != 0 || len(s.Docs()) != 0 || len(s.Colls()) != 0 {
			t.Error(tellState(s))
		}
		wantStep(t, s, 0, "{'op':'changes','after':0}", "{'ok':true,'stamp':0,'changes':[],'next':0}")
	}
}

// P23.7: the log keeps so many.
func TestKeep(t *testing.T) {
	s := stepped(t, empty(t, 2), "{'op':'create','in':'c'}", "{'op':'insert','in':'c','id':'a','value':{}}", "{'op':'insert','in':'c','id':'b','value':{}}")
	wantStep(t, s, 0, "{'op':'changes','after':0,'limit':1}", "{'ok':true,'stamp':3,'changes':[{'stamp':2,'in':'c','id':'a','kind':'insert'}],'next':2}")
	s = stepped(t, s, "{'op':'delete','in':'c','id':'a'}")
	wantStep(t, s, 0, "{'op':'changes','after':1}", "{'ok':false,'error':'horizon'}")
	wantStep(t, s, 0, "{'op':'changes','after':2}", "{'ok':true,'stamp':4,'changes':[{'stamp':3,'in':'c','id':'b','kind':'insert'},{'stamp':4,'in':'c','id':'a','kind':'delete'}],'next':4}")
}

// P23.9, of a nil State
func TestNilState(t *testing.T) {
	var s *model.State
	if next, reply := s.Step(0, `{"op":"stat"}`); next != nil || reply != "" {
		t.Error(next, reply)
	}
	if s.Skip() != nil || s.Stamp() != 0 || len(s.Docs()) != 0 || len(s.Colls()) != 0 {
		t.Error("something is told of a nil State")
	}
}

// P23.8, 1: what is no request leaves the same state.
func TestStepRefused(t *testing.T) {
	s := stepped(t, empty(t, 9), "{'op':'create','in':'c'}")
	for _, raw := range []string{"", "{", "[]", "{'op':'go'}", "{'op':'get','in':'c'}", "{'op':'create','in':'D'}", "{'op':'next','cursor':0}", "{'op':'open','in':'c','batch':257}",
		"{'op':'txn','steps':[{'op':'delete','in':'c','id':'a'},{'op':'insert','in':'c','value':{}}]}", "{'op':'txn','steps':[{'op':'modify','in':'c','id':'a','ops':{'$inc':{'n':1}}}]}"} {
		next, reply := s.Step(0, quoted(raw))
		_, e, at := request.Parse(quoted(raw))
		if next != s || e == isOK || reply != request.Bad(e, at) {
			t.Errorf("%s: %s, %d", raw, reply, next.Stamp())
		}
	}
	wantStep(t, s, 0, "{'op':'txn','steps':[{'op':'delete','in':'c','id':'a'},{'op':'insert','in':'c','value':{}}]}", "{'ok':false,'error':'missing','at':1}")
}

// P23.8, 4: ids are made one behind the other for each client, and count where the request is refused too.
func TestMadeIds(t *testing.T) {
	s, raw := empty(t, 9), "{'op':'insert','in':'c','value':{}}"
	s = wantStep(t, s, 3, raw, "{'ok':false,'error':'coll'}")
	s = stepped(t, s, "{'op':'create','in':'c'}")
	for _, c := range []struct {
		client int
		made   int64
	}{{3, 1}, {0, 0}, {3, 2}, {-1, 0}, {0, 1}, {1 << 40, 0}} {
		id := model.Named(ask(raw), c.client, c.made).Id
		if model.MadeFor(s, c.client) != c.made {
			t.Errorf("%d: %d", c.client, model.MadeFor(s, c.client))
		}
		s = wantStep(t, s, c.client, raw, fmt.Sprintf("{'ok':true,'id':'%s','version':%d}", id, s.Stamp()+1))
	}
	if len(s.Docs()) != 6 {
		t.Error(tellState(s))
	}
	named := wantStep(t, s, 0, "{'op':'insert','in':'c','id':'a','value':{}}", "{'ok':true,'id':'a','version':9}")
	if model.MadeFor(named, 0) != 2 {
		t.Error("an id that was given counts")
	}
}

// P23.8, 4: where none is made the request goes on without one, and none counts.
func TestNoIdLeft(t *testing.T) {
	s := model.Counted(stepped(t, empty(t, 9), "{'op':'create','in':'c'}"), 0, -1)
	s = wantStep(t, s, 0, "{'op':'insert','in':'c','value':{}}", "{'ok':false,'error':'made'}")
	if model.MadeFor(s, 0) != -1 || s.Stamp() != 2 {
		t.Error(model.MadeFor(s, 0), s.Stamp())
	}
}

// P23.8, 4: at the last stamp nothing changes any more but how many ids were made; reads and cursors go on.
func TestStamps(t *testing.T) {
	s := stepped(t, empty(t, 9), "{'op':'create','in':'c'}", "{'op':'insert','in':'c','id':'a','value':{}}", "{'op':'open','in':'c'}")
	s = stepped(t, model.At(s, maxStamp-1), "{'op':'insert','in':'c','id':'b','value':{}}")
	if s.Stamp() != maxStamp {
		t.Fatal(s.Stamp())
	}
	before := tellState(s)
	for _, raw := range []string{
		"{'op':'insert','in':'c','id':'z','value':{}}", "{'op':'replace','in':'d','id':'a','value':{}}", "{'op':'update','in':'c','id':'a','ops':{'$inc':{'n':1}}}", "{'op':'modify','in':'c','id':'a','ops':{'$inc':{'n':1}}}", "{'op':'delete','in':'c','id':'a'}",
		"{'op':'txn','steps':[{'op':'delete','in':'c','id':'a'}]}", "{'op':'create','in':'d'}", "{'op':'drop','in':'c'}", "{'op':'index','in':'c','name':'x','path':'n'}", "{'op':'unindex','in':'c','name':'x'}", "{'op':'insert','in':'c','value':{}}",
	} {
		wantText(t, raw, tellState(wantStep(t, s, 0, raw, "{'ok':false,'error':'stamps'}")), before)
	}
	if next := wantStep(t, s, 0, "{'op':'insert','in':'c','value':{}}", "{'ok':false,'error':'stamps'}"); model.MadeFor(next, 0) != 1 {
		t.Error(model.MadeFor(next, 0))
	}
	if s.Skip() != s {
		t.Error("there is a state behind the last one")
	}
	wantStep(t, s, 0, "{'op':'count','in':'c'}", "{'ok':true,'stamp':4611686018427387904,'count':2}")
	wantStep(t, s, 0, "{'op':'open','in':'c'}", "{'ok':true,'cursor':2,'stamp':4611686018427387904}")
	wantStep(t, s, 0, "{'op':'next','cursor':1}", "{'ok':true,'docs':[{'id':'a','version':2,'value':{}}],'done':true}")
}

// P23.8, 4: an index is made of all documents that are there.
func TestIndexOfAll(t *testing.T) {
	s := stepped(t, empty(t, 9), "{'op':'create','in':'c'}", "{'op':'create','in':'d'}")
	for i := range 300 {
		s = stepped(t, s, fmt.Sprintf("{'op':'insert','in':'c','id':'%d','value':{'n':%d}}", i, i%150), fmt.Sprintf("{'op':'insert','in':'d','id':'%d','value':{'n':7}}", i))
	}
	s = wantStep(t, s, 0, "{'op':'index','in':'c','name':'x','path':'n','unique':true}", "{'ok':false,'error':'unique'}")
	s = wantStep(t, s, 0, "{'op':'index','in':'c','name':'x','path':'n'}", "{'ok':true,'stamp':604}")
	wantStep(t, s, 0, "{'op':'explain','in':'c','filter':{'n':7}}", "{'ok':true,'stamp':604,'index':'x','looked':2,'matched':2}")
	wantStep(t, s, 0, "{'op':'explain','in':'c','filter':{'n':{'$gt':139}}}", "{'ok':true,'stamp':604,'index':'x','looked':20,'matched':20}")
	wantStep(t, s, 0, "{'op':'aggregate','in':'c','pipe':[{'$match':{'n':7}},{'$count':'c'}]}", "{'ok':true,'stamp':604,'values':[{'c':2}]}")
	if l := s.Docs(); len(l) != 600 || !slices.IsSortedFunc(l, func(a, b api.Item) int { return strings.Compare(a.Key, b.Key) }) {
		t.Error(len(l))
	}
}

// P23.9: a state that skips has the next stamp, and all else.
func TestSkip(t *testing.T) {
	s := stepped(t, empty(t, 9), "{'op':'create','in':'c'}", "{'op':'insert','in':'c','value':{}}", "{'op':'open','in':'c'}")
	k := s.Skip()
	if k.Stamp() != 3 || s.Stamp() != 2 || tellItems(k.Docs()) != tellItems(s.Docs()) || tellColls(k.Colls()) != tellColls(s.Colls()) || model.MadeFor(k, 0) != 1 {
		t.Error(tellState(k))
	}
	wantStep(t, k, 0, "{'op':'open','in':'c'}", "{'ok':true,'cursor':2,'stamp':3}")
	wantStep(t, k, 0, "{'op':'changes','after':2}", "{'ok':true,'stamp':3,'changes':[],'next':2}")
	wantStep(t, k, 0, "{'op':'insert','in':'c','id':'b','value':{}}", "{'ok':true,'id':'b','version':4}")
}

// P23.9: documents by rising keys, which is not the order of the collections; collections by rising names.
func TestDocsAndColls(t *testing.T) {
	s := stepped(t, empty(t, 9), "{'op':'create','in':'d','most':7}", "{'op':'create','in':'c-1','schema':{'required':['n']}}", "{'op':'create','in':'c'}", "{'op':'index','in':'c','name':'y','path':'n'}", "{'op':'index','in':'c','name':'x','path':'t.u','unique':true}",
		"{'op':'insert','in':'c','id':'b','value':{}}", "{'op':'insert','in':'c','id':'/','value':{}}", "{'op':'insert','in':'c-1','id':'z','value':{'n':1}}", "{'op':'insert','in':'c','id':'a','value':{}}")
	wantText(t, "docs", tellItems(s.Docs()), `c-1/z@8 {"n":1}, c//@7 {}, c/a@9 {}, c/b@6 {}`)
	wantText(t, "colls", tellColls(s.Colls()), `c 3/100000 null {0 0} [{y n false} {x t.u true}]; c-1 1/100000 {"required":["n"]} {0 0} []; d 0/7 null {0 0} []`)
	l, k := s.Docs(), s.Colls()
	l[0].Key, k[0].Name, k[0].Specs[0].Name = "zz", "zz", "zz"
	wantText(t, "docs", tellItems(s.Docs()), `c-1/z@8 {"n":1}, c//@7 {}, c/a@9 {}, c/b@6 {}`)
	wantText(t, "colls", tellColls(s.Colls()), `c 3/100000 null {0 0} [{y n false} {x t.u true}]; c-1 1/100000 {"required":["n"]} {0 0} []; d 0/7 null {0 0} []`)
}

// Of collections without documents nothing is kept but what the catalog has.
func TestNothingIsLeftBehind(t *testing.T) {
	s := empty(t, 9)
	for i := range 100 {
		in := fmt.Sprintf("'in':'c%d'", i)
		s = stepped(t, s, "{'op':'create',"+in+"}", "{'op':'insert',"+in+",'id':'a','value':{}}", "{'op':'insert',"+in+",'id':'b','value':{}}", "{'op':'delete',"+in+",'id':'a'}", "{'op':'delete',"+in+",'id':'b'}", "{'op':'drop',"+in+"}")
	}
	if model.Piles(s) != 0 || len(s.Docs()) != 0 || len(s.Colls()) != 0 {
		t.Error(model.Piles(s))
	}
}

// many are inserts of so many documents into c.
func many(t *testing.T, s *model.State, n int) *model.State {
	t.Helper()
	for i := 0; i < n; i += 64 {
		var steps []string
		for j := i; j < min(n, i+64); j++ {
			steps = append(steps, fmt.Sprintf("{'op':'insert','in':'c','id':'%d','value':{'n':%d}}", j, j))
		}
		s = stepped(t, s, "{'op':'txn','steps':["+strings.Join(steps, ",")+"]}")
	}
	return s
}

// pages are the ids that a cursor's pages tell, until it is done, each page's length first.
func pages(t *testing.T, s *model.State, client int, number int64) ([]int, []string) {
	t.Helper()
	var lengths []int
	var ids []string
	for {
		next, reply := s.Step(client, fmt.Sprintf(`{"op":"next","cursor":%d}`, number))
		v := val(reply)
		if len(v.Items) != 3 || v.Names[1] != "docs" || v.Names[2] != "done" || next.Stamp() != s.Stamp() {
			t.Fatal(reply)
		}
		lengths = append(lengths, len(v.Items[1].Items))
		for _, d := range v.Items[1].Items {
			ids = append(ids, d.Items[0].Text)
		}
		if s = next; v.Items[2].Kind == api.True {
			return lengths, ids
		}
	}
}

// P23.8, 3: a batch of 0 is 32; the greatest is 256.
func TestBatch(t *testing.T) {
	s := many(t, stepped(t, empty(t, 9), "{'op':'create','in':'c'}"), 300)
	var want []string
	for _, x := range cursor.Order(s.Docs()[:]) {
		want = append(want, strings.TrimPrefix(x.Key, "c/"))
	}
	for batch, first := range map[string]int{"": usualBatch, ",'batch':0": usualBatch, ",'batch':1": 1, ",'batch':32": 32, ",'batch':33": 33, ",'batch':256": 256} {
		opened := stepped(t, s, "{'op':'open','in':'c'"+batch+"}")
		lengths, ids := pages(t, opened, 0, 1)
		if lengths[0] != first || len(ids) != 300 || lengths[len(lengths)-1] != 300%first {
			t.Errorf("%s: %v, %d", batch, lengths, len(ids))
		}
		slices.Sort(ids)
		if slices.Sort(want); !slices.Equal(ids, want) {
			t.Errorf("%s: %q", batch, ids)
		}
	}
}

// P23.8, 3: a client has at most four open, has numbers of its own, and these go on.
func TestOpen(t *testing.T) {
	s := stepped(t, empty(t, 9), "{'op':'create','in':'c'}")
	s = wantStep(t, s, 0, "{'op':'open','in':'d'}", "{'ok':false,'error':'coll'}")
	for i := range maxCursors {
		s = wantStep(t, s, 0, "{'op':'open','in':'c'}", fmt.Sprintf("{'ok':true,'cursor':%d,'stamp':1}", i+1))
	}
	for _, in := range []string{"c", "d"} {
		if next := wantStep(t, s, 0, "{'op':'open','in':'"+in+"'}", "{'ok':false,'error':'full'}"); next != s {
			t.Error("a refused open makes another state")
		}
	}
	wantStep(t, s, 1, "{'op':'open','in':'c'}", "{'ok':true,'cursor':1,'stamp':1}")
	wantStep(t, s, 1, "{'op':'next','cursor':1}", "{'ok':false,'error':'none'}")
	wantStep(t, s, 1, "{'op':'close','cursor':1}", "{'ok':false,'error':'none'}")
	s = wantStep(t, s, 0, "{'op':'close','cursor':2}", "{'ok':true}")
	wantStep(t, s, 0, "{'op':'next','cursor':2}", "{'ok':false,'error':'none'}")
	wantStep(t, s, 0, "{'op':'close','cursor':2}", "{'ok':false,'error':'none'}")
	for _, number := range []string{"1", "3", "4"} {
		wantStep(t, s, 0, "{'op':'next','cursor':"+number+"}", "{'ok':true,'docs':[],'done':true}")
	}
	s = wantStep(t, s, 0, "{'op':'open','in':'c'}", "{'ok':true,'cursor':5,'stamp':1}")
	s = wantStep(t, s, 0, "{'op':'close','cursor':1}", "{'ok':true}")
	s = wantStep(t, s, 0, "{'op':'open','in':'c'}", "{'ok':true,'cursor':6,'stamp':1}")
	wantStep(t, s, 0, "{'op':'open','in':'c'}", "{'ok':false,'error':'full'}")
	wantStep(t, s, 0, "{'op':'next','cursor':7}", "{'ok':false,'error':'none'}")
}

// P23.8, 3: a cursor tells the documents as they were, by its filter and fields, whatever is changed meanwhile.
func TestCursorStays(t *testing.T) {
	s := stepped(t, empty(t, 9), "{'op':'create','in':'c'}", "{'op':'insert','in':'c','id':'a','value':{'n':1,'t':1}}", "{'op':'insert','in':'c','id':'b','value':{'n':2}}", "{'op':'insert','in':'c','id':'c','value':{'n':3,'t':3}}",
		"{'op':'open','in':'c','filter':{'n':{'$ne':2}},'fields':{'n':1},'batch':1}")
	s = wantStep(t, s, 0, "{'op':'next','cursor':1}", "{'ok':true,'docs':[{'id':'c','version':4,'value':{'n':3}}],'done':false}")
	s = stepped(t, s, "{'op':'delete','in':'c','id':'a'}", "{'op':'delete','in':'c','id':'b'}", "{'op':'delete','in':'c','id':'c'}", "{'op':'drop','in':'c'}", "{'op':'create','in':'c'}", "{'op':'insert','in':'c','id':'a','value':{'n':9}}", "{'op':'open','in':'c'}")
	s = wantStep(t, s, 0, "{'op':'next','cursor':1}", "{'ok':true,'docs':[{'id':'a','version':2,'value':{'n':1}}],'done':false}")
	s = wantStep(t, s, 0, "{'op':'next','cursor':1}", "{'ok':true,'docs':[],'done':true}")
	s = wantStep(t, s, 0, "{'op':'next','cursor':1}", "{'ok':true,'docs':[],'done':true}")
	wantStep(t, s, 0, "{'op':'next','cursor':2}", "{'ok':true,'docs':[{'id':'a','version':10,'value':{'n':9}}],'done':true}")
}

// The chapter's examples, 23.7.
func TestExamples(t *testing.T) {
	s := empty(t, 10)
	for _, c := range []struct {
		raw, want string
		stamp     int64
	}{
		{"{'op':'create','in':'c'}", "{'ok':true,'stamp':1}", 1},
		{"{'op':'insert','in':'c','id':'a','value':{'n':1}}", "{'ok':true,'id':'a','version':2}", 2},
		{"{'op':'get','in':'c','id':'a'}", "{'ok':true,'version':2,'value':{'n':1}}", 2},
		{"{'op':'get','in':'d','id':'a'}", "{'ok':false,'error':'coll'}", 2},
		{"{'op':'insert','in':'c','id':'a','value':{}}", "{'ok':false,'error':'there'}", 3},
		{"{'op':'update','in':'c','id':'a','ops':{'$inc':{'n':1}},'version':2}", "{'ok':true,'version':4,'changed':true,'fresh':false}", 4},
		{"{'op':'update','in':'c','id':'a','ops':{'$inc':{'n':1}},'version':2}", "{'ok':false,'error':'stale'}", 5},
		{"{'op':'scan','in':'c'}", "{'ok':true,'stamp':5,'docs':[{'id':'a','version':4,'value':{'n':2}}]}", 5},
		{"{'op':'changes','after':1}", "{'ok':true,'stamp':5,'changes':[{'stamp':2,'in':'c','id':'a','kind':'insert'},{'stamp':4,'in':'c','id':'a','kind':'update'}],'next':4}", 5},
		{"{'op':'txn','steps':[{'op':'delete','in':'c','id':'a'},{'op':'delete','in':'c','id':'b'}]}", "{'ok':false,'error':'none','at':1}", 6},
		{"{'op':'drop','in':'c'}", "{'ok':false,'error':'notempty'}", 7},
		{"{'op':'open','in':'c'}", "{'ok':true,'cursor':1,'stamp':7}", 7},
		{"{'op':'next','cursor':1}", "{'ok':true,'docs':[{'id':'a','version':4,'value':{'n':2}}],'done':true}", 7},
		{"{'op':'close','cursor':1}", "{'ok':true}", 7},
		{"{'op':'close','cursor':1}", "{'ok':false,'error':'none'}", 7},
	} {
		if s = wantStep(t, s, 0, c.raw, c.want); s.Stamp() != c.stamp {
			t.Errorf("%s: %d, not %d", c.raw, s.Stamp(), c.stamp)
		}
	}
}
