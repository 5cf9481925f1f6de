package docstore_test

import (
	"fmt"
	"strings"
	"testing"

	"docket/api"
	"docket/docstore"
	"docket/prim"
)

// The steps of parts of a call, in a store of one client and one stripe: with its 5 slots the list of what is retired is 7/6.

func taken(entry int) string {
	return "RL1/0 get2/0 RU1/0 L1/0 get2/0 set2/0 U1/0 L3/" + fmt.Sprint(entry) + " "
}

func dropped(entry int) string {
	return strings.ReplaceAll("U3/e add4/e L1/0 get2/0 ld4/e set2/0 U1/0 ", "/e", "/"+fmt.Sprint(entry))
}

// looked is a look at nodes, with the slot 0 pinned.
func looked(nodes ...int) string { return "ld7/0 st7/1 ld7/0 " + gets(nodes...) + "st7/1 " }

func gets(nodes ...int) string {
	s := ""
	for _, n := range nodes {
		s += fmt.Sprint("get6/", n, " ")
	}
	return s
}

const (
	begins    = "call8/0 "
	ends      = "ret8/0"
	locks     = "L5/0 ld7/0 "
	unlocks   = "U5/0 "
	publishes = "st7/0 get7/6 "
	passes    = "ld7/1 ld7/2 ld7/3 ld7/4 ld7/5 "
	retires   = publishes + "set7/6 " + passes
)

// freed is Free of nodes, freedAll the end of a pass that frees them.
func freed(nodes ...int) string {
	s := ""
	for _, n := range nodes {
		s += fmt.Sprintf("get6/%d set6/%d get6/0 set6/0 ", n, n)
	}
	return s
}

func freedAll(nodes ...int) string { return "set7/6 " + freed(nodes...) }

// madeNew is Alloc of nodes that were never there, madeAgain of such as were freed.
func madeNew(nodes ...int) string {
	s := ""
	for _, n := range nodes {
		s += fmt.Sprintf("get6/0 set6/%d ", n)
	}
	return s
}

func madeAgain(nodes ...int) string {
	s := ""
	for _, n := range nodes {
		s += fmt.Sprintf("get6/0 set6/0 set6/%d ", n)
	}
	return s
}

// five are documents whose sums have unlike digits at the level 0: with the fifth the leaf becomes a branch, with a leaf for each. By rising digits (0, 2, 3, 5, c) these are e, c, d, b, a, and lie in the nodes 1, 3, 4, 5, 6; the branch is node 7, and node 2 is pooled.
func five() []string {
	return []string{"{'op':'create','in':'c'}", insert("a", 1), insert("b", 2), insert("c", 3), insert("d", 4), insert("e", 5)}
}

// P24.3 to P24.5: just these steps, in this order.
func TestSteps(t *testing.T) {
	one := []string{"{'op':'create','in':'c'}", insert("a", 1)}
	for _, x := range []struct {
		what          string
		nodes         int
		before        []string
		raw, want     string
		reply         string
		stamp, ending int64
	}{
		{"create", 9, nil, "{'op':'create','in':'c'}", locks + publishes + unlocks, "{'ok':true,'stamp':1}", 1, 1},
		{"create of what is there publishes too", 9, one, "{'op':'create','in':'c'}", locks + publishes + unlocks, "{'ok':false,'error':'there'}", 3, 3},
		{"drop", 9, one[:1], "{'op':'drop','in':'c'}", locks + publishes + unlocks, "{'ok':true,'stamp':2}", 2, 2},
		{"drop of what has documents", 9, one, "{'op':'drop','in':'c'}", locks + publishes + unlocks, "{'ok':false,'error':'notempty'}", 3, 3},
		{"index of nothing", 9, one[:1], "{'op':'index','in':'c','name':'x','path':'n'}", locks + publishes + unlocks, "{'ok':true,'stamp':2}", 2, 2},
		{"index where there is no collection", 9, one, "{'op':'index','in':'d','name':'x','path':'n'}", locks + publishes + unlocks, "{'ok':false,'error':'coll'}", 3, 3},
		{"index of a leaf", 9, one, "{'op':'index','in':'c','name':'x','path':'n'}", locks + gets(1) + publishes + unlocks, "{'ok':true,'stamp':3}", 3, 3},
		{"index of a branch", 90, five(), "{'op':'index','in':'c','name':'x','path':'n'}", locks + gets(7, 1, 3, 4, 5, 6) + publishes + unlocks, "{'ok':true,'stamp':7}", 7, 7},
		{"unindex", 9, append(one, "{'op':'index','in':'c','name':'x','path':'n'}"), "{'op':'unindex','in':'c','name':'x'}", locks + publishes + unlocks, "{'ok':true,'stamp':4}", 4, 4},

		{"insert into nothing", 9, one[:1], insert("a", 1), taken(0) + looked() + locks + madeNew(1) + publishes + unlocks + dropped(0), "{'ok':true,'id':'a','version':2}", 2, 2},
		{"insert into a leaf", 9, one, insert("b", 1), taken(1) + looked(1) + locks + gets(1) + madeNew(2) + retires + freedAll(1) + unlocks + dropped(1), "{'ok':true,'id':'b','version':3}", 3, 3},
		{"insert where a node is used again", 9, five()[:3], insert("c", 1), taken(2) + looked(2) + locks + gets(2) + madeAgain(1) + retires + freedAll(2) + unlocks + dropped(2), "{'ok':true,'id':'c','version':4}", 4, 4},
		{"insert of what is there", 9, one, insert("a", 1), taken(1) + looked(1) + locks + publishes + unlocks + dropped(1), "{'ok':false,'error':'there'}", 3, 3},
		{"insert where there is no collection", 9, nil, insert("a", 1), taken(0) + looked() + locks + publishes + unlocks + dropped(0), "{'ok':false,'error':'coll'}", 1, 1},
		{"insert without an id", 9, one[:1], "{'op':'insert','in':'c','value':{}}", taken(0) + looked() + locks + madeNew(1) + publishes + unlocks + dropped(0), "{'ok':true,'id':'" + madeId(0, 0) + "','version':2}", 2, 2},
		{"update that changes nothing", 9, one, "{'op':'update','in':'c','id':'a','ops':{'$set':{'n':1}}}", taken(1) + looked(1) + locks + publishes + unlocks + dropped(1), "{'ok':true,'version':2,'changed':false,'fresh':false}", 3, 3},
		{"update", 9, one, inc("a", 1), taken(1) + looked(1) + locks + gets(1) + madeNew(2) + retires + freedAll(1) + unlocks + dropped(1), "{'ok':true,'version':3,'changed':true,'fresh':false}", 3, 3},
		{"replace in a branch", 90, five(), "{'op':'replace','in':'c','id':'b','value':{}}", taken(5) + looked(7, 5) + locks + gets(7, 5) + madeAgain(2) + madeNew(8) + retires + freedAll(7, 5) + unlocks + dropped(5), "{'ok':true,'version':7,'changed':true}", 7, 7},
		{"modify of what is not there", 9, one, "{'op':'modify','in':'c','id':'b','ops':{'$set':{'n':1}}}", taken(1) + looked(1) + locks + publishes + unlocks + dropped(1), "{'ok':false,'error':'none'}", 3, 3},
		{"delete of the last", 9, one, "{'op':'delete','in':'c','id':'a'}", taken(1) + looked(1) + locks + gets(1) + retires + freedAll(1) + unlocks + dropped(1), "{'ok':true,'version':3}", 3, 3},
		{"delete that makes a leaf of a branch", 90, five(), "{'op':'delete','in':'c','id':'b'}", taken(5) + looked(7, 5) + locks + gets(7, 5, 1, 3, 4, 6) + madeAgain(2) + retires + freedAll(7, 5, 1, 3, 4, 6) + unlocks + dropped(5), "{'ok':true,'version':7}", 7, 7},
		{"delete while a cursor holds what was", 9, append(one, "{'op':'open','in':'c'}"), "{'op':'delete','in':'c','id':'a'}", taken(1) + looked(1) + locks + gets(1) + retires + unlocks + dropped(1), "{'ok':true,'version':3}", 3, 3},
		{"a change that retires nothing, but passes", 9, append(one, "{'op':'open','in':'c'}", inc("a", 1)), "{'op':'create','in':'d'}", locks + publishes + passes + unlocks, "{'ok':true,'stamp':4}", 4, 4},
		{"a change that frees what was held", 9, append(one, "{'op':'open','in':'c'}", inc("a", 1), "{'op':'close','cursor':1}"), "{'op':'drop','in':'c'}", locks + publishes + passes + freedAll(1) + unlocks, "{'ok':false,'error':'notempty'}", 4, 4},

		{"txn: its keys rise, each once, and lie in two collections", 9, append(one, "{'op':'create','in':'d'}"), "{'op':'txn','steps':[{'op':'insert','in':'d','id':'b','value':{}},{'op':'delete','in':'c','id':'a'},{'op':'insert','in':'c','id':'a','value':{}},{'op':'insert','in':'c','id':'b','value':{}}]}",
			taken(1) + taken(2) + taken(3) + looked(1, 1) + locks + gets(1) + madeNew(2) + madeNew(3) + retires + freedAll(1) + unlocks + dropped(1) + dropped(2) + dropped(3),
			"{'ok':true,'stamp':4,'results':[{'ok':true,'id':'b','version':4},{'ok':true,'version':4},{'ok':true,'id':'a','version':4},{'ok':true,'id':'b','version':4}]}", 4, 4},
		{"txn that is refused", 9, one, "{'op':'txn','steps':[{'op':'delete','in':'c','id':'a'},{'op':'delete','in':'c','id':'b'}]}", taken(1) + taken(2) + looked(1, 1) + locks + publishes + unlocks + dropped(1) + dropped(2), "{'ok':false,'error':'none','at':1}", 3, 3},

		{"no node for a first document", 1, append(one, "{'op':'create','in':'d'}"), "{'op':'insert','in':'d','id':'a','value':{}}", taken(1) + looked() + locks + "get6/0 " + publishes + unlocks + dropped(1), "{'ok':false,'error':'nodes'}", 4, 4},
		{"no node while one is held: what was retired ahead is passed", 2, append(one, "{'op':'open','in':'c'}", inc("a", 1)), inc("a", 1), taken(2) + looked(2) + locks + gets(2) + "get6/0 " + publishes + passes + unlocks + dropped(2), "{'ok':false,'error':'nodes'}", 4, 4},
		{"nodes for a part: those that were allocated are freed, in their order", 5, five()[:5], insert("e", 5), taken(4) + looked(2) + locks + gets(2) + madeAgain(1) + madeNew(3, 4, 5) + "get6/0 " + freed(1, 3, 4, 5) + publishes + unlocks + dropped(4), "{'ok':false,'error':'nodes'}", 6, 6},
		{"nodes for the first collection of two", 2, append(one, "{'op':'create','in':'d'}", "{'op':'open','in':'c'}"), "{'op':'txn','steps':[{'op':'insert','in':'d','id':'a','value':{}},{'op':'insert','in':'c','id':'b','value':{}}]}", taken(1) + taken(2) + looked(1) + locks + gets(1) + madeNew(2) + "get6/0 " + freed(2) + publishes + unlocks + dropped(1) + dropped(2), "{'ok':false,'error':'nodes'}", 4, 4},

		{"get", 9, one, get("a"), looked(1), "{'ok':true,'version':2,'value':{'n':1}}", 2, 2},
		{"get in a branch", 90, five(), get("b"), looked(7, 5), "{'ok':true,'version':3,'value':{'n':2}}", 6, 6},
		{"get of what is not there", 9, one, get("b"), looked(1), "{'ok':false,'error':'none'}", 2, 2},
		{"get in nothing", 9, one[:1], get("b"), looked(), "{'ok':false,'error':'none'}", 1, 1},
		{"get where there is no collection", 9, one, "{'op':'get','in':'d','id':'a'}", looked(), "{'ok':false,'error':'coll'}", 2, 2},
		{"scan", 90, five(), "{'op':'scan','in':'c','limit':1}", looked(7, 1, 3, 4, 5, 6), "{'ok':true,'stamp':6,'docs':[{'id':'a','version':2,'value':{'n':1}}]}", 6, 6},
		{"scan by an index", 90, append(five(), "{'op':'index','in':'c','name':'x','path':'n'}"), "{'op':'scan','in':'c','filter':{'n':{'$in':[1,2]}},'fields':{'n':1}}", looked(7, 5, 6), "{'ok':true,'stamp':7,'docs':[{'id':'a','version':2,'value':{'n':1}},{'id':'b','version':3,'value':{'n':2}}]}", 7, 7},
		{"scan by an index that has nothing", 90, append(five(), "{'op':'index','in':'c','name':'x','path':'n'}"), "{'op':'scan','in':'c','filter':{'n':7}}", looked(), "{'ok':true,'stamp':7,'docs':[]}", 7, 7},
		{"scan where there is no collection", 9, nil, "{'op':'scan','in':'c'}", looked(), "{'ok':false,'error':'coll'}", 0, 0},
		{"count", 9, one, "{'op':'count','in':'c'}", looked(1), "{'ok':true,'stamp':2,'count':1}", 2, 2},
		{"distinct", 9, one, "{'op':'distinct','in':'c','path':'n'}", looked(1), "{'ok':true,'stamp':2,'values':[1]}", 2, 2},
		{"aggregate", 9, one, "{'op':'aggregate','in':'c','pipe':[{'$count':'k'}]}", looked(1), "{'ok':true,'stamp':2,'values':[{'k':1}]}", 2, 2},
		{"aggregate by an index", 90, append(five(), "{'op':'index','in':'c','name':'x','path':'n'}"), "{'op':'aggregate','in':'c','pipe':[{'$match':{'n':2}},{'$count':'k'}]}", looked(7, 5), "{'ok':true,'stamp':7,'values':[{'k':1}]}", 7, 7},
		{"explain", 90, append(five(), "{'op':'index','in':'c','name':'x','path':'n'}"), "{'op':'explain','in':'c','filter':{'n':2}}", looked(7, 5), "{'ok':true,'stamp':7,'index':'x','looked':1,'matched':1}", 7, 7},
		{"changes", 9, one, "{'op':'changes','after':0}", looked(), "{'ok':true,'stamp':2,'changes':[{'stamp':2,'in':'c','id':'a','kind':'insert'}],'next':2}", 2, 2},
		{"stat", 9, one, "{'op':'stat'}", looked(), "{'ok':true,'stamp':2,'docs':1,'collections':[{'in':'c','count':1,'most':100000,'indexes':[]}]}", 2, 2},

		{"open", 9, one, "{'op':'open','in':'c'}", "ld7/0 st7/2 ld7/0 ", "{'ok':true,'cursor':1,'stamp':2}", 2, 2},
		{"open where there is no collection", 9, one, "{'op':'open','in':'d'}", "ld7/0 st7/2 ld7/0 st7/2 ", "{'ok':false,'error':'coll'}", 2, 2},
		{"open of a second one", 9, append(one, "{'op':'open','in':'c'}"), "{'op':'open','in':'c'}", "ld7/0 st7/3 ld7/0 ", "{'ok':true,'cursor':2,'stamp':2}", 2, 2},
		{"open at the first free place", 9, append(one, "{'op':'open','in':'c'}", "{'op':'open','in':'c'}", "{'op':'close','cursor':1}"), "{'op':'open','in':'c'}", "ld7/0 st7/2 ld7/0 ", "{'ok':true,'cursor':3,'stamp':2}", 2, 2},
		{"open of one too many", 9, append(one, "{'op':'open','in':'c'}", "{'op':'open','in':'c'}", "{'op':'open','in':'c'}", "{'op':'open','in':'c'}"), "{'op':'open','in':'d'}", "", "{'ok':false,'error':'full'}", -1, 2},
		{"next", 90, append(five(), "{'op':'open','in':'c','batch':2}"), "{'op':'next','cursor':1}", gets(7, 1, 3), "{'ok':true,'docs':[{'id':'e','version':6,'value':{'n':5}},{'id':'c','version':4,'value':{'n':3}}],'done':false}", -1, 6},
		{"next of a page behind it", 90, append(five(), "{'op':'open','in':'c','batch':2,'filter':{'n':{'$gt':3}}}", "{'op':'next','cursor':1}"), "{'op':'next','cursor':1}", gets(7, 4, 5, 6), "{'ok':true,'docs':[],'done':true}", -1, 6},
		{"next of one that is done", 9, append(one, "{'op':'open','in':'c'}", "{'op':'next','cursor':1}"), "{'op':'next','cursor':1}", "", "{'ok':true,'docs':[],'done':true}", -1, 2},
		{"next of none", 9, one, "{'op':'next','cursor':1}", "", "{'ok':false,'error':'none'}", -1, 2},
		{"close", 9, append(one, "{'op':'open','in':'c'}", "{'op':'open','in':'c'}"), "{'op':'close','cursor':2}", "st7/3 ", "{'ok':true}", -1, 2},
		{"close of one that was closed", 9, append(one, "{'op':'open','in':'c'}", "{'op':'close','cursor':1}"), "{'op':'close','cursor':1}", "", "{'ok':false,'error':'none'}", -1, 2},

		{"what is no request", 9, one, "{'op':'go'}", "", "{'ok':false,'error':'op'}", -1, 2},
		{"a step that is none", 9, one, "{'op':'txn','steps':[{'op':'delete','in':'c','id':'a'},{'op':'get','in':'c','id':'a'}]}", "", "{'ok':false,'error':'op','at':1}", -1, 2},
	} {
		s := mustMake(t, prim.Scripted(), api.StoreConfig{Clients: 1, Stripes: 1, Nodes: x.nodes, Keep: 9})
		for _, raw := range x.before {
			s.Call(nil, 0, quoted(raw))
		}
		var reply string
		var stamp int64
		got := runOne(t, s, func(c *client) { reply, stamp = s.Call(c, 0, quoted(x.raw)) })
		if want := begins + x.want + ends; got != want {
			t.Errorf("%s:\n%s\nnot\n%s", x.what, got, want)
		}
		if reply != quoted(x.reply) || stamp != x.stamp || s.End().Stamp != x.ending {
			t.Errorf("%s:\n%s, %d, ending with %d, not\n%s, %d, %d", x.what, reply, stamp, s.End().Stamp, quoted(x.reply), x.stamp, x.ending)
		}
	}
}

// P24.5, 1: a latch that is there is found, and is there still behind who used it first; the keys of one call lie in unlike stripes.
func TestLatches(t *testing.T) {
	c := api.StoreConfig{Clients: 2, Stripes: 2, Nodes: 9, Keep: 9}
	s := mustMake(t, prim.Scripted(), c)
	mustCall(t, s, 0, "{'op':'create','in':'c'}")
	// Client 0 comes to its latch; client 1 waits for the same one, in the stripe 0; then both go on.
	script := append(append(make([]int, 9), 1, 1, 1, 1, 1, 1), enough()...)
	p := mustPlay(t, s, [][]string{quotedAll(insert("a", 1)), quotedAll(insert("a", 2))}, script)
	want := "0:call8/0 0:RL1/0 0:get2/0 0:RU1/0 0:L1/0 0:get2/0 0:set2/0 0:U1/0 0:L3/0 1:call8/1 1:RL1/0 1:get2/0 1:add4/0 1:RU1/0 " +
		"0:ld7/0 0:st7/1 0:ld7/0 0:st7/1 0:L5/0 0:ld7/0 0:get6/0 0:set6/1 0:st7/0 0:get7/11 0:U5/0 0:U3/0 0:add4/0 0:ret8/0 " +
		"1:L3/0 1:ld7/0 1:st7/2 1:ld7/0 1:get6/1 1:st7/2 1:L5/0 1:ld7/0 1:st7/0 1:get7/11 1:U5/0 1:U3/0 1:add4/0 1:L1/0 1:get2/0 1:ld4/0 1:set2/0 1:U1/0 1:ret8/1"
	if got := tellRun(p.Run.Events); got != want {
		t.Errorf("%s\nnot\n%s", got, want)
	}
	if p.Calls[0].Reply != quoted("{'ok':true,'id':'a','version':2}") || p.Calls[1].Reply != no("there") {
		t.Error(tellCalls(p.Calls))
	}
	got := tellSteps(mustPlay(t, s, [][]string{quotedAll("{'op':'txn','steps':[{'op':'delete','in':'c','id':'b'},{'op':'delete','in':'c','id':'a'}]}"), nil}, enough()).Run.Events)
	both := "call8/0 RL1/0 get2/0 RU1/0 L1/0 get2/0 set2/0 U1/0 L3/2 RL1/1 get2/1 RU1/1 L1/1 get2/1 set2/1 U1/1 L3/1 "
	if !strings.HasPrefix(got, both) || !strings.HasSuffix(got, "U5/0 U3/2 add4/2 L1/0 get2/0 ld4/2 set2/0 U1/0 U3/1 add4/1 L1/1 get2/1 ld4/1 set2/1 U1/1 ret8/0") {
		t.Error(got)
	}
}

// P24.1: which slot is whose: of 3 clients the cursors of client 1 lie behind the own slots of all, and those of client 0.
func TestSlots(t *testing.T) {
	s := stocked(t, api.StoreConfig{Clients: 3, Stripes: 1, Nodes: 9, Keep: 9}, "a")
	for n, want := range []string{"call8/0 ld7/0 st7/4 ld7/0 ret8/0 call8/0 ld7/0 st7/5 ld7/0 ret8/0", "call8/1 ld7/0 st7/8 ld7/0 ret8/1 call8/1 ld7/0 st7/9 ld7/0 ret8/1", "call8/2 ld7/0 st7/12 ld7/0 ret8/2 call8/2 ld7/0 st7/13 ld7/0 ret8/2"} {
		calls := make([][]string, 3)
		calls[n] = quotedAll("{'op':'open','in':'c'}", "{'op':'open','in':'c'}")
		if got := tellSteps(mustPlay(t, s, calls, enough()).Run.Events); got != want {
			t.Errorf("client %d: %s, not %s", n, got, want)
		}
	}
	for n, want := range []string{"call8/0 ld7/0 st7/1 ld7/0 get6/1 st7/1 ret8/0", "call8/1 ld7/0 st7/2 ld7/0 get6/1 st7/2 ret8/1", "call8/2 ld7/0 st7/3 ld7/0 get6/1 st7/3 ret8/2"} {
		calls := make([][]string, 3)
		calls[n] = quotedAll(get("a"))
		if got := tellSteps(mustPlay(t, s, calls, enough()).Run.Events); got != want {
			t.Errorf("client %d: %s, not %s", n, got, want)
		}
	}
	if got := fmt.Sprint(s.End().Pins); got != "[0 0 0 3 3 0 0 3 3 0 0 3 3 0 0]" {
		t.Error(got)
	}
	if got := tellSteps(mustPlay(t, s, [][]string{nil, quotedAll("{'op':'create','in':'d'}"), nil}, enough()).Run.Events); got != "call8/1 L5/0 ld7/0 st7/0 get7/16 U5/0 ret8/1" {
		t.Error(got)
	}
}

// P24.5, 4: at the greatest stamp a change is refused with it, its load of the root is the point, and nothing is published; the latches are given back. The one ahead of it goes.
func TestNoStampLeft(t *testing.T) {
	c := api.StoreConfig{Clients: 1, Stripes: 1, Nodes: 9, Keep: 9}
	s := docstore.Aged(prim.Scripted(), c, maxStamp-1)
	wantCall(t, s, 0, "{'op':'create','in':'c'}", "{'ok':true,'stamp':4611686018427387904}", maxStamp)
	p := mustPlay(t, s, [][]string{quotedAll("{'op':'insert','in':'c','value':{}}", "{'op':'create','in':'d'}", "{'op':'index','in':'c','name':'x','path':'n'}", "{'op':'stat'}")}, enough())
	want := begins + taken(0) + looked() + locks + unlocks + dropped(0) + ends + " " + begins + locks + unlocks + ends + " " + begins + locks + unlocks + ends + " " + begins + looked() + ends
	if got := tellSteps(p.Run.Events); got != want {
		t.Errorf("%s\nnot\n%s", got, want)
	}
	for i, at := range []int{14, 26, 31, 37} {
		x := p.Calls[i]
		if i < 3 && x.Reply != no("stamps") || x.Point != at || x.Stamp != 0 {
			t.Errorf("%+v", x)
		}
	}
	wantCall(t, s, 0, "{'op':'create','in':'d'}", "{'ok':false,'error':'stamps'}", maxStamp)
	if x := s.End(); x.Stamp != maxStamp || len(x.Colls) != 1 || x.Entries != 0 || x.Pins[0] != 0 {
		t.Errorf("%+v", x)
	}
}

// P24.5, 6: an id that was made for a call that has no node counts as not made, one that was made for any other call counts.
func TestMadeIds(t *testing.T) {
	c := api.StoreConfig{Clients: 2, Stripes: 1, Nodes: 2, Keep: 9}
	s := mustMake(t, prim.Scripted(), c)
	make := "{'op':'insert','in':'c','value':{}}"
	id := func(n, made int, version int64) string {
		return fmt.Sprintf("{'ok':true,'id':'%s','version':%d}", madeId(n, made), version)
	}
	wantCall(t, s, 1, make, "{'ok':false,'error':'coll'}", 1)
	mustCall(t, s, 0, "{'op':'create','in':'c'}", "{'op':'create','in':'d'}")
	wantCall(t, s, 1, make, id(1, 1, 4), 4)
	wantCall(t, s, 0, make, id(0, 0, 5), 5)
	mustCall(t, s, 0, "{'op':'open','in':'c'}")
	wantCall(t, s, 1, make, id(1, 2, 6), 6)
	wantCall(t, s, 1, make, "{'ok':false,'error':'nodes'}", 7)
	wantCall(t, s, 1, "{'op':'insert','in':'d','value':{}}", "{'ok':false,'error':'nodes'}", 8)
	mustCall(t, s, 0, "{'op':'close','cursor':1}", "{'op':'create','in':'e'}")
	wantCall(t, s, 1, make, id(1, 3, 10), 10)
	wantCall(t, s, 0, "{'op':'insert','in':'d','value':{}}", id(0, 1, 11), 11)
}
