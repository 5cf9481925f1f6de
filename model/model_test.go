package model_test

import (
	"fmt"
	"slices"
	"testing"

	"docket/api"
	"docket/catalog"
	"docket/ident"
	"docket/model"
	"docket/request"
)

// P23.1: an insert without an id has the one that the client's maker makes next.
func TestNamed(t *testing.T) {
	bare := ask("{'op':'insert','in':'c','value':{'n':1}}")
	for client := range 3 {
		maker := ident.NewMaker(uint64(client), 0)
		for made := range int64(5) {
			id, _ := maker.Next()
			if r := model.Named(bare, client, made); r.Id != id || r.In != "c" || tell(r.Value) != `{"n":1}` {
				t.Errorf("%d %d: %+v", client, made, r)
			}
		}
	}
	if r := model.Named(bare, 1, -1); r.Id != "" {
		t.Errorf("%q of a maker that makes none", r.Id)
	}
	if r := model.Named(bare, -1, -2); !ident.Id(r.Id) {
		t.Errorf("%q", r.Id)
	}
	if bare.Id != "" {
		t.Error("what was handed in has changed")
	}
}

// P23.1: every other request stays as it is.
func TestNamedOthers(t *testing.T) {
	for _, text := range []string{
		"{'op':'insert','in':'c','id':'a','value':{}}", "{'op':'scan','in':'c'}", "{'op':'stat'}", "{'op':'create','in':'c'}", "{'op':'next','cursor':1}",
		"{'op':'txn','steps':[{'op':'insert','in':'c','id':'a','value':{}},{'op':'delete','in':'c','id':'b'}],'mode':'each'}",
	} {
		want, _ := request.Print(ask(text))
		if got, e := request.Print(model.Named(ask(text), 3, 4)); got != want || e != isOK {
			t.Errorf("%s: %s", want, got)
		}
	}
}

// Rule 3: the steps of a named request are a list of its own.
func TestNamedShares(t *testing.T) {
	r := ask("{'op':'txn','steps':[{'op':'delete','in':'c','id':'a'},{'op':'delete','in':'c','id':'b'}]}")
	r.Steps = r.Steps[:1]
	one, two := model.Named(r, 0, 0), model.Named(r, 0, 0)
	one.Steps[0].Id = "x"
	_ = append(one.Steps, api.Request{Id: "y"})
	if r.Steps[0].Id != "a" || two.Steps[0].Id != "a" || r.Steps[:2][1].Id != "b" {
		t.Error(r.Steps[:2], two.Steps)
	}
}

// P23.2: the keys of what may change, rising, each once.
func TestKeys(t *testing.T) {
	for text, want := range map[string][]string{
		"{'op':'insert','in':'c','id':'a','value':{}}":               {"c/a"},
		"{'op':'insert','in':'c','value':{}}":                        nil,
		"{'op':'replace','in':'c','id':'a','value':{}}":              {"c/a"},
		"{'op':'update','in':'c','id':'/','ops':{'$inc':{'n':1}}}":   {"c//"},
		"{'op':'modify','in':'c-1','id':'a','ops':{'$inc':{'n':1}}}": {"c-1/a"},
		"{'op':'delete','in':'c','id':'a'}":                          {"c/a"},
		"{'op':'get','in':'c','id':'a'}":                             nil,
		"{'op':'scan','in':'c'}":                                     nil,
		"{'op':'create','in':'c'}":                                   nil,
		"{'op':'drop','in':'c'}":                                     nil,
		"{'op':'index','in':'c','name':'x','path':'n'}":              nil,
		"{'op':'unindex','in':'c','name':'x'}":                       nil,
		"{'op':'open','in':'c'}":                                     nil,
		"{'op':'stat'}":                                              nil,
		"{'op':'txn','steps':[{'op':'delete','in':'c','id':'b'},{'op':'insert','in':'c-1','id':'z','value':{}},{'op':'update','in':'c','id':'a','ops':{'$inc':{'n':1}}},{'op':'delete','in':'c','id':'b'}]}": {"c-1/z", "c/a", "c/b"},
	} {
		wantList(t, text, model.Keys(ask(text)), want...)
	}
}

// three are documents of which two have n.
func three() []api.Item { return items("a@1 {'n':1}", "b@2 {'n':5,'t':'x'}", "c@3 {}") }

func wantWanted(t *testing.T, c *catalog.Catalog, text string, all bool, want ...string) {
	t.Helper()
	ids, every := model.Wanted(c, ask(text))
	if !slices.Equal(ids, want) || every != all {
		t.Errorf("%s: %q, %v, not %q, %v", text, ids, every, want, all)
	}
}

// P23.3: of get its id, whether it is there or not; without an index all; nothing where there is no collection.
func TestWanted(t *testing.T) {
	c := stocked(t, three())
	wantWanted(t, c, "{'op':'get','in':'c','id':'a'}", false, "a")
	wantWanted(t, c, "{'op':'get','in':'c','id':'zz'}", false, "zz")
	for _, op := range []string{"scan", "count", "explain"} {
		wantWanted(t, c, "{'op':'"+op+"','in':'c'}", true)
		wantWanted(t, c, "{'op':'"+op+"','in':'c','filter':{'n':1}}", true)
	}
	wantWanted(t, c, "{'op':'distinct','in':'c','path':'n'}", true)
	wantWanted(t, c, "{'op':'aggregate','in':'c','pipe':[]}", true)
	wantWanted(t, c, "{'op':'aggregate','in':'c','pipe':[{'$match':{'n':1}}]}", true)
	for _, text := range []string{"{'op':'get','in':'d','id':'a'}", "{'op':'scan','in':'d'}", "{'op':'count','in':'d'}", "{'op':'distinct','in':'d','path':'n'}", "{'op':'aggregate','in':'d','pipe':[]}", "{'op':'explain','in':'d'}"} {
		wantWanted(t, c, text, false)
		wantWanted(t, nil, text, false)
		wantWanted(t, catalog.New(), text, false)
	}
}

// P23.3: by an index, also where it has no id for the need.
func TestWantedByIndex(t *testing.T) {
	c := stocked(t, three(), "x:n", "y:t")
	for _, op := range []string{"'scan'", "'count'", "'explain'", "'distinct','path':'t'"} {
		wantWanted(t, c, "{'op':"+op+",'in':'c','filter':{'n':{'$gte':1}}}", false, "a", "b")
		wantWanted(t, c, "{'op':"+op+",'in':'c','filter':{'n':{'$gte':1},'t':'x'}}", false, "b")
		wantWanted(t, c, "{'op':"+op+",'in':'c','filter':{'n':{'$gt':5}}}", false)
		wantWanted(t, c, "{'op':"+op+",'in':'c','filter':{'n':null}}", true)
		wantWanted(t, c, "{'op':"+op+",'in':'c','filter':{'m':1}}", true)
		wantWanted(t, c, "{'op':"+op+",'in':'c'}", true)
	}
	wantWanted(t, c, "{'op':'get','in':'c','id':'a'}", false, "a")
	wantWanted(t, c, "{'op':'aggregate','in':'c','pipe':[{'$match':{'n':5}},{'$match':{'n':1}}]}", false, "b")
	wantWanted(t, c, "{'op':'aggregate','in':'c','pipe':[{'$match':{'n':7}}]}", false)
	wantWanted(t, c, "{'op':'aggregate','in':'c','pipe':[{'$match':{'m':7}},{'$match':{'n':1}}]}", true)
	wantWanted(t, c, "{'op':'aggregate','in':'c','pipe':[{'$limit':1},{'$match':{'n':1}}]}", true)
}

// P23.3: every other operation needs none.
func TestWantedOthers(t *testing.T) {
	c := stocked(t, three(), "x:n")
	for _, text := range []string{
		"{'op':'insert','in':'c','id':'a','value':{}}", "{'op':'replace','in':'c','id':'a','value':{}}", "{'op':'update','in':'c','id':'a','ops':{'$inc':{'n':1}}}", "{'op':'modify','in':'c','id':'a','ops':{'$inc':{'n':1}}}", "{'op':'delete','in':'c','id':'a'}",
		"{'op':'changes','after':0,'in':'c'}", "{'op':'txn','steps':[{'op':'delete','in':'c','id':'a'}]}", "{'op':'open','in':'c','filter':{'n':1}}", "{'op':'next','cursor':1}", "{'op':'close','cursor':1}",
		"{'op':'create','in':'c'}", "{'op':'drop','in':'c'}", "{'op':'index','in':'c','name':'y','path':'n'}", "{'op':'unindex','in':'c','name':'x'}", "{'op':'stat'}",
	} {
		wantWanted(t, c, text, false)
	}
}

// Rule 3: lists that are answered are new.
func TestAnswersAreNew(t *testing.T) {
	c := stocked(t, three(), "x:n")
	r := ask("{'op':'scan','in':'c','filter':{'n':{'$gte':1}}}")
	one, _ := model.Wanted(c, r)
	one[0] = "zz"
	_ = append(one, "zz")
	wantWanted(t, c, "{'op':'scan','in':'c','filter':{'n':{'$gte':1}}}", false, "a", "b")
	txn := ask("{'op':'txn','steps':[{'op':'delete','in':'c','id':'b'},{'op':'delete','in':'c','id':'a'}]}")
	keys := model.Keys(txn)
	keys[0] = "zz"
	wantList(t, "keys", model.Keys(txn), "c/a", "c/b")
}

// P23.5
func TestOpenedAndPage(t *testing.T) {
	wantText(t, "opened", model.Opened(1, 7), `{"ok":true,"cursor":1,"stamp":7}`)
	wantText(t, "opened", model.Opened(maxStamp, 0), `{"ok":true,"cursor":4611686018427387904,"stamp":0}`)
	wantText(t, "page", model.Page(nil, true), `{"ok":true,"docs":[],"done":true}`)
	docs := []api.Doc{{Id: `"`, Version: 3, Value: val("{'n':1}")}, {Id: "b", Version: 2, Value: val("{}")}}
	wantText(t, "page", model.Page(docs, false), `{"ok":true,"docs":[{"id":"\"","version":3,"value":{"n":1}},{"id":"b","version":2,"value":{}}],"done":false}`)
}

// P23.5: a page whose text would be longer than a text may be tells that alone.
func TestLongPage(t *testing.T) {
	var docs []api.Doc
	for i := range maxBatch {
		docs = append(docs, api.Doc{Id: fmt.Sprint(i), Version: 1, Value: val("{'t':'" + long(250) + "'}")})
	}
	wantText(t, "page", model.Page(docs, false), `{"ok":false,"error":"long"}`)
	if text := model.Page(docs[:200], true); len(text) < 200*250 || len(text) > maxText {
		t.Error(len(text))
	}
}

func long(n int) string { return string(slices.Repeat([]byte("x"), n)) }
