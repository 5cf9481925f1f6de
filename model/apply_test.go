package model_test

import (
	"fmt"
	"strings"
	"testing"

	"docket/api"
	"docket/catalog"
	"docket/model"
)

// keyed are documents of c under their whole keys.
func keyed(l []api.Item) []api.Item {
	var all []api.Item
	for _, x := range l {
		x.Key = "c/" + x.Key
		all = append(all, x)
	}
	return all
}

// wantEffect holds what a request makes against a reply, in which a ' stands for each ", the edits as tellEdits tells them, and the changes.
func wantEffect(t *testing.T, c *catalog.Catalog, l []api.Item, text, reply, edits string, changes ...api.Change) *catalog.Catalog {
	t.Helper()
	x := model.Apply(c, ask(text), l, 9)
	if x.Reply != quoted(reply) || tellEdits(x.Edits) != quoted(edits) || fmt.Sprint(x.Changes) != fmt.Sprint(changes) || x.Cat == nil {
		t.Errorf("%s:\n%s", text, tellEffect(x))
	}
	return x.Cat
}

func wantRefused(t *testing.T, c *catalog.Catalog, l []api.Item, text, reply string) {
	t.Helper()
	x := model.Apply(c, ask(text), l, 9)
	if tellEffect(x) != tellEffect(model.Effect{Reply: quoted(reply)}) || x.Edits != nil || x.Changes != nil {
		t.Errorf("%s:\n%s", text, tellEffect(x))
	}
}

func changed(in, id string, kind int) api.Change {
	return api.Change{Stamp: 9, In: in, Id: id, Kind: kind}
}

func wantCount(t *testing.T, c *catalog.Catalog, in string, n int) {
	t.Helper()
	if k, there := c.Coll(in); !there || k.Count != n {
		t.Errorf("%s: %d, not %d", in, k.Count, n)
	}
}

// P23.6: one document that comes, becomes another, goes.
func TestApplyOne(t *testing.T) {
	c, l := stocked(t, three(), "x:n"), three()
	d := wantEffect(t, c, nil, "{'op':'insert','in':'c','id':'z','value':{'n':7}}", "{'ok':true,'id':'z','version':9}", "c: z@9 {'n':7}", changed("c", "z", inserted))
	wantCount(t, d, "c", 4)
	wantWanted(t, d, "{'op':'scan','in':'c','filter':{'n':7}}", false, "z")
	d = wantEffect(t, c, keyed(l[:1]), "{'op':'replace','in':'c','id':'a','value':{'n':8}}", "{'ok':true,'version':9,'changed':true}", "c: a@9 {'n':8}", changed("c", "a", updated))
	wantCount(t, d, "c", 3)
	wantWanted(t, d, "{'op':'scan','in':'c','filter':{'n':{'$gte':0}}}", false, "a", "b")
	wantWanted(t, d, "{'op':'scan','in':'c','filter':{'n':1}}", false)
	wantEffect(t, c, keyed(l[:1]), "{'op':'update','in':'c','id':'a','ops':{'$inc':{'n':1}},'version':1}", "{'ok':true,'version':9,'changed':true,'fresh':false}", "c: a@9 {'n':2}", changed("c", "a", updated))
	wantEffect(t, c, nil, "{'op':'update','in':'c','id':'z','ops':{'$inc':{'n':1}},'upsert':true}", "{'ok':true,'version':9,'changed':true,'fresh':true}", "c: z@9 {'n':1}", changed("c", "z", inserted))
	wantEffect(t, c, keyed(l[1:2]), "{'op':'modify','in':'c','id':'b','ops':{'$inc':{'n':1}},'fields':{'n':1}}", "{'ok':true,'version':9,'changed':true,'fresh':false,'value':{'n':5}}", "c: b@9 {'n':6,'t':'x'}", changed("c", "b", updated))
	wantEffect(t, c, keyed(l[1:2]), "{'op':'modify','in':'c','id':'b','ops':{'$inc':{'n':1}},'new':true}", "{'ok':true,'version':9,'changed':true,'fresh':false,'value':{'n':6,'t':'x'}}", "c: b@9 {'n':6,'t':'x'}", changed("c", "b", updated))
	d = wantEffect(t, c, keyed(l[1:2]), "{'op':'delete','in':'c','id':'b'}", "{'ok':true,'version':9}", "c: b@0 null gone", changed("c", "b", deleted))
	wantCount(t, d, "c", 2)
	wantWanted(t, d, "{'op':'scan','in':'c','filter':{'n':5}}", false)
	wantCount(t, c, "c", 3)
}

// P23.6: where nothing changes there is a catalog, and neither edits nor changes.
func TestApplyNothing(t *testing.T) {
	c, l := stocked(t, three(), "x:n!"), keyed(three()[:1])
	for text, reply := range map[string]string{
		"{'op':'replace','in':'c','id':'a','value':{'n':1}}":                           "{'ok':true,'version':1,'changed':false}",
		"{'op':'update','in':'c','id':'a','ops':{'$set':{'n':1}}}":                     "{'ok':true,'version':1,'changed':false,'fresh':false}",
		"{'op':'modify','in':'c','id':'a','ops':{'$set':{'n':1}},'version':1}":         "{'ok':true,'version':1,'changed':false,'fresh':false,'value':{'n':1}}",
		"{'op':'txn','steps':[{'op':'replace','in':'c','id':'a','value':{'n':1}}]}":    "{'ok':true,'stamp':9,'results':[{'ok':true,'version':1,'changed':false}]}",
		"{'op':'txn','mode':'each','steps':[{'op':'delete','in':'c','id':'z'}]}":       "{'ok':true,'stamp':9,'results':[{'ok':false,'error':'none'}]}",
		"{'op':'txn','mode':'stop','steps':[{'op':'delete','in':'nobody','id':'z'}]}":  "{'ok':true,'stamp':9,'results':[{'ok':false,'error':'coll'}]}",
		"{'op':'update','in':'c','id':'a','ops':{'$unset':{'zz':true}},'upsert':true}": "{'ok':true,'version':1,'changed':false,'fresh':false}",
	} {
		d := wantEffect(t, c, l, text, reply, "")
		wantText(t, text, tellCatalog(d), tellCatalog(c))
	}
}

// P23.6: the errors of one document, in their order.
func TestApplyOneRefused(t *testing.T) {
	c, l := stocked(t, three(), "x:n!"), keyed(three())
	small, _ := catalog.New().Create("c", 1, val("{'required':['n']}"))
	small, _ = small.Commit("c", nil, three()[:1])
	wantRefused(t, c, nil, "{'op':'insert','in':'nobody','value':{}}", "{'ok':false,'error':'made'}")
	wantRefused(t, c, nil, "{'op':'insert','in':'c','value':{}}", "{'ok':false,'error':'made'}")
	for _, text := range []string{"{'op':'insert','in':'d','id':'a','value':{}}", "{'op':'replace','in':'d','id':'a','value':{}}", "{'op':'update','in':'d','id':'a','ops':{'$inc':{'n':1}}}", "{'op':'modify','in':'d','id':'a','ops':{'$inc':{'n':1}}}", "{'op':'delete','in':'d','id':'a'}"} {
		wantRefused(t, c, nil, text, "{'ok':false,'error':'coll'}")
		wantRefused(t, nil, nil, text, "{'ok':false,'error':'coll'}")
	}
	wantRefused(t, c, l[:1], "{'op':'insert','in':'c','id':'a','value':{}}", "{'ok':false,'error':'there'}")
	wantRefused(t, c, nil, "{'op':'replace','in':'c','id':'z','value':{}}", "{'ok':false,'error':'none'}")
	wantRefused(t, c, l[:1], "{'op':'replace','in':'c','id':'a','value':{},'version':2}", "{'ok':false,'error':'stale'}")
	wantRefused(t, c, l[1:2], "{'op':'update','in':'c','id':'b','ops':{'$inc':{'t':1}}}", "{'ok':false,'error':'kind'}")
	wantRefused(t, c, nil, "{'op':'delete','in':'c','id':'z'}", "{'ok':false,'error':'none'}")
	wantRefused(t, c, nil, "{'op':'insert','in':'c','id':'z','value':{'n':5}}", "{'ok':false,'error':'unique'}")
	wantRefused(t, c, l[:1], "{'op':'update','in':'c','id':'a','ops':{'$inc':{'n':4}}}", "{'ok':false,'error':'unique'}")
	wantRefused(t, small, nil, "{'op':'insert','in':'c','id':'z','value':{}}", "{'ok':false,'error':'schema'}")
	wantRefused(t, small, nil, "{'op':'insert','in':'c','id':'z','value':{'n':1}}", "{'ok':false,'error':'full'}")
	wantRefused(t, small, l[:1], "{'op':'replace','in':'c','id':'a','value':{}}", "{'ok':false,'error':'schema'}")
	wantRefused(t, small, l[:1], "{'op':'insert','in':'c','id':'a','value':{}}", "{'ok':false,'error':'there'}")
}

// P23.6, txn: all or none, and the error's step.
func TestApplyTxn(t *testing.T) {
	c, l := stocked(t, three(), "x:n!"), keyed(three())
	d := wantEffect(t, c, l[:2], "{'op':'txn','steps':[{'op':'delete','in':'c','id':'b'},{'op':'update','in':'c','id':'a','ops':{'$inc':{'n':4}}},{'op':'insert','in':'c','id':'0','value':{}}]}",
		"{'ok':true,'stamp':9,'results':[{'ok':true,'version':9},{'ok':true,'version':9,'changed':true,'fresh':false},{'ok':true,'id':'0','version':9}]}",
		"c: 0@9 {} a@9 {'n':5} b@0 null gone", changed("c", "b", deleted), changed("c", "a", updated), changed("c", "0", inserted))
	wantCount(t, d, "c", 3)
	wantWanted(t, d, "{'op':'scan','in':'c','filter':{'n':5}}", false, "a")
	wantRefused(t, c, l[:2], "{'op':'txn','steps':[{'op':'delete','in':'c','id':'a'},{'op':'insert','in':'c','id':'z','value':{'n':5}},{'op':'delete','in':'c','id':'b'}]}", "{'ok':false,'error':'unique','at':1}")
	wantRefused(t, c, nil, "{'op':'txn','steps':[{'op':'delete','in':'d','id':'a'}]}", "{'ok':false,'error':'coll','at':0}")
	wantRefused(t, c, l[:1], "{'op':'txn','steps':[{'op':'delete','in':'c','id':'a'},{'op':'delete','in':'c','id':'a'}]}", "{'ok':false,'error':'none','at':1}")
	wantEffect(t, c, l[:2], "{'op':'txn','mode':'stop','steps':[{'op':'delete','in':'c','id':'a'},{'op':'insert','in':'c','id':'b','value':{}},{'op':'delete','in':'c','id':'b'}]}",
		"{'ok':true,'stamp':9,'results':[{'ok':true,'version':9},{'ok':false,'error':'there'}]}", "c: a@0 null gone", changed("c", "a", deleted))
	wantEffect(t, c, l[:2], "{'op':'txn','mode':'each','steps':[{'op':'insert','in':'c','id':'z','value':{'n':1}},{'op':'delete','in':'c','id':'a'},{'op':'insert','in':'c','id':'z','value':{'n':1}},{'op':'insert','in':'d','id':'z','value':{}}]}",
		"{'ok':true,'stamp':9,'results':[{'ok':false,'error':'unique'},{'ok':true,'version':9},{'ok':true,'id':'z','version':9},{'ok':false,'error':'coll'}]}", "c: a@0 null gone z@9 {'n':1}", changed("c", "a", deleted), changed("c", "z", inserted))
}

// P23.6, txn: edits are what is other behind all steps, changes each step's.
func TestApplyTxnBackAndForth(t *testing.T) {
	c, l := stocked(t, three(), "x:n"), keyed(three())
	d := wantEffect(t, c, nil, "{'op':'txn','steps':[{'op':'insert','in':'c','id':'z','value':{'n':7}},{'op':'delete','in':'c','id':'z'}]}", "{'ok':true,'stamp':9,'results':[{'ok':true,'id':'z','version':9},{'ok':true,'version':9}]}", "",
		changed("c", "z", inserted), changed("c", "z", deleted))
	wantText(t, "catalog", tellCatalog(d), tellCatalog(c))
	wantEffect(t, c, l[:1], "{'op':'txn','steps':[{'op':'delete','in':'c','id':'a'},{'op':'insert','in':'c','id':'a','value':{'n':1}}]}", "{'ok':true,'stamp':9,'results':[{'ok':true,'version':9},{'ok':true,'id':'a','version':9}]}", "c: a@9 {'n':1}",
		changed("c", "a", deleted), changed("c", "a", inserted))
	wantEffect(t, c, l[:1], "{'op':'txn','steps':[{'op':'update','in':'c','id':'a','ops':{'$inc':{'n':1}}},{'op':'update','in':'c','id':'a','ops':{'$inc':{'n':-1}},'version':9}]}", "{'ok':true,'stamp':9,'results':[{'ok':true,'version':9,'changed':true,'fresh':false},{'ok':true,'version':9,'changed':true,'fresh':false}]}", "c: a@9 {'n':1}",
		changed("c", "a", updated), changed("c", "a", updated))
}

// P23.6: edits by rising collections, which is not the order of the keys: c is ahead of c-1, c-1/a ahead of c/a.
func TestApplyOrder(t *testing.T) {
	c := stocked(t, three())
	for _, name := range []string{"c-1", "b", "d"} {
		c, _ = c.Create(name, 0, api.Value{})
	}
	l := items("c-1/a@1 {}", "c/a@1 {'n':1}", "c/b@2 {'n':5,'t':'x'}")
	c, _ = c.Commit("c-1", nil, items("a@1 {}"))
	var steps []string
	for _, in := range []string{"c-1", "d", "c", "b"} {
		steps = append(steps, "{'op':'insert','in':'"+in+"','id':'z','value':{}}", "{'op':'insert','in':'"+in+"','id':'0','value':{}}")
	}
	steps = append(steps, "{'op':'delete','in':'c-1','id':'a'}", "{'op':'delete','in':'c','id':'b'}", "{'op':'replace','in':'c','id':'a','value':{'n':1}}")
	x := model.Apply(c, ask("{'op':'txn','steps':["+strings.Join(steps, ",")+"]}"), l, 9)
	wantText(t, "edits", tellEdits(x.Edits), "b: 0@9 {} z@9 {}; c: 0@9 {} b@0 null gone z@9 {}; c-1: 0@9 {} a@0 null gone z@9 {}; d: 0@9 {} z@9 {}")
}

// P23.6: what changes collections.
func TestApplyCollections(t *testing.T) {
	c, l := stocked(t, three()), three()
	stamp := "{'ok':true,'stamp':9}"
	d := wantEffect(t, c, nil, "{'op':'create','in':'d','most':5,'schema':{'required':['n']}}", stamp, "")
	wantText(t, "create", tellColls(collsOf(d)), `c 3/100000 null {0 0} []; d 0/5 {"required":["n"]} {0 0} []`)
	wantRefused(t, c, nil, "{'op':'create','in':'c','schema':{'zz':1}}", "{'ok':false,'error':'there'}")
	wantRefused(t, c, nil, "{'op':'create','in':'d','most':100001,'schema':{'zz':1}}", "{'ok':false,'error':'capacity'}")
	wantRefused(t, c, nil, "{'op':'create','in':'d','schema':{'zz':1}}", "{'ok':false,'error':'rule'}")
	wantText(t, "drop", tellColls(collsOf(wantEffect(t, d, nil, "{'op':'drop','in':'d'}", stamp, ""))), tellColls(collsOf(c)))
	wantRefused(t, c, nil, "{'op':'drop','in':'c'}", "{'ok':false,'error':'notempty'}")
	wantRefused(t, c, nil, "{'op':'drop','in':'d'}", "{'ok':false,'error':'coll'}")
	d = wantEffect(t, c, l, "{'op':'index','in':'c','name':'x','path':'n','unique':true}", stamp, "")
	wantText(t, "index", tellCatalog(d), tellCatalog(stocked(t, l, "x:n!")))
	wantRefused(t, d, l, "{'op':'index','in':'c','name':'x','path':'n'}", "{'ok':false,'error':'there'}")
	wantRefused(t, d, l, "{'op':'index','in':'d','name':'x','path':'n'}", "{'ok':false,'error':'coll'}")
	wantRefused(t, d, items("a@1 {'n':1}", "b@2 {'n':1}"), "{'op':'index','in':'c','name':'y','path':'n','unique':true}", "{'ok':false,'error':'unique'}")
	e := wantEffect(t, d, nil, "{'op':'unindex','in':'c','name':'x'}", stamp, "")
	wantText(t, "unindex", tellCatalog(e), tellCatalog(c))
	wantRefused(t, c, nil, "{'op':'unindex','in':'c','name':'x'}", "{'ok':false,'error':'none'}")
	wantRefused(t, c, nil, "{'op':'unindex','in':'d','name':'x'}", "{'ok':false,'error':'coll'}")
}

// P23.6: of another operation ErrArg.
func TestApplyOthers(t *testing.T) {
	for _, text := range []string{"{'op':'get','in':'c','id':'a'}", "{'op':'scan','in':'c'}", "{'op':'count','in':'c'}", "{'op':'distinct','in':'c','path':'n'}", "{'op':'aggregate','in':'c','pipe':[]}", "{'op':'explain','in':'c'}", "{'op':'changes','after':0}", "{'op':'open','in':'c'}", "{'op':'next','cursor':1}", "{'op':'close','cursor':1}", "{'op':'stat'}"} {
		wantRefused(t, stocked(t, three()), keyed(three()), text, "{'ok':false,'error':'arg'}")
	}
	if x := model.Apply(nil, api.Request{}, nil, 0); x.Reply != `{"ok":false,"error":"arg"}` || x.Cat != nil {
		t.Error(tellEffect(x))
	}
}

// A nil Catalog answers nil and OK (P22.9), and so do these.
func TestApplyNilCatalog(t *testing.T) {
	for _, text := range []string{"{'op':'create','in':'c'}", "{'op':'drop','in':'c'}", "{'op':'index','in':'c','name':'x','path':'n'}", "{'op':'unindex','in':'c','name':'x'}"} {
		wantRefused(t, nil, nil, text, "{'ok':true,'stamp':9}")
	}
}

// Rule 3: the items that are handed in stay as they are, and what is answered is new.
func TestApplyLeavesItsArguments(t *testing.T) {
	c := stocked(t, three(), "x:n")
	l := keyed(three())
	before := tellItems(l)
	r := ask("{'op':'txn','steps':[{'op':'delete','in':'c','id':'a'},{'op':'replace','in':'c','id':'b','value':{}},{'op':'insert','in':'c','id':'z','value':{}}]}")
	one, two := model.Apply(c, r, l[:2], 9), model.Apply(c, r, l[:2], 9)
	want := tellEffect(two)
	one.Edits[0].Edits[0].Item.Key = "zz"
	one.Changes[0].Id = "zz"
	_ = append(one.Edits[0].Edits, api.Edit{})
	_ = append(one.Edits, api.Moves{})
	_ = append(one.Changes, api.Change{})
	if tellItems(l) != before || tellEffect(two) != want || tellEffect(model.Apply(c, r, l[:2], 9)) != want {
		t.Error(tellItems(l), tellEffect(two))
	}
}
