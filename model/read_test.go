package model_test

import (
	"fmt"
	"testing"

	"docket/api"
	"docket/catalog"
	"docket/model"
)

// wantRead holds a read at a root of the stamp 7, of those documents of c that it wants, against what is to be told, in which a ' stands for each ".
func wantRead(t *testing.T, c *catalog.Catalog, l []api.Item, text, want string) {
	t.Helper()
	r := ask(text)
	ids, all := model.Wanted(c, r)
	var items []api.Item
	for _, x := range l {
		for _, id := range ids {
			if id == x.Key {
				items = append(items, x)
			}
		}
		if all {
			items = append(items, x)
		}
	}
	wantText(t, text, model.Read(c, r, 7, items, logOf(t, 4)), quoted(want))
}

// P23.4: without a collection the six that read one are told so, whatever is handed in beside it.
func TestReadNoCollection(t *testing.T) {
	for _, text := range []string{"{'op':'get','in':'d','id':'a'}", "{'op':'scan','in':'d'}", "{'op':'count','in':'d'}", "{'op':'distinct','in':'d','path':'n'}", "{'op':'aggregate','in':'d','pipe':[]}", "{'op':'explain','in':'d'}"} {
		for _, c := range []*catalog.Catalog{nil, catalog.New(), stocked(t, three())} {
			for _, l := range [][]api.Item{nil, three()} {
				wantText(t, text, model.Read(c, ask(text), 7, l, nil), `{"ok":false,"error":"coll"}`)
			}
		}
	}
}

// P23.4, get
func TestGet(t *testing.T) {
	c := stocked(t, three(), "x:n")
	wantRead(t, c, three(), "{'op':'get','in':'c','id':'b'}", "{'ok':true,'version':2,'value':{'n':5,'t':'x'}}")
	wantRead(t, c, three(), "{'op':'get','in':'c','id':'b','fields':{'t':1}}", "{'ok':true,'version':2,'value':{'t':'x'}}")
	wantRead(t, c, three(), "{'op':'get','in':'c','id':'b','fields':{'t':0}}", "{'ok':true,'version':2,'value':{'n':5}}")
	wantRead(t, c, three(), "{'op':'get','in':'c','id':'z'}", "{'ok':false,'error':'none'}")
}

// P23.4, scan: filtered, ordered, cut, and then only what the fields let through.
func TestScan(t *testing.T) {
	for _, c := range []*catalog.Catalog{stocked(t, three()), stocked(t, three(), "x:n", "y:t!")} {
		wantRead(t, c, three(), "{'op':'scan','in':'c'}", "{'ok':true,'stamp':7,'docs':[{'id':'a','version':1,'value':{'n':1}},{'id':'b','version':2,'value':{'n':5,'t':'x'}},{'id':'c','version':3,'value':{}}]}")
		wantRead(t, c, three(), "{'op':'scan','in':'c','sort':{'n':-1},'fields':{'t':1}}", "{'ok':true,'stamp':7,'docs':[{'id':'b','version':2,'value':{'t':'x'}},{'id':'a','version':1,'value':{}},{'id':'c','version':3,'value':{}}]}")
		wantRead(t, c, three(), "{'op':'scan','in':'c','sort':{'n':-1},'skip':1,'limit':1}", "{'ok':true,'stamp':7,'docs':[{'id':'a','version':1,'value':{'n':1}}]}")
		wantRead(t, c, three(), "{'op':'scan','in':'c','skip':2}", "{'ok':true,'stamp':7,'docs':[{'id':'c','version':3,'value':{}}]}")
		wantRead(t, c, three(), "{'op':'scan','in':'c','skip':9,'limit':9223372036854775807}", "{'ok':true,'stamp':7,'docs':[]}")
		wantRead(t, c, three(), "{'op':'scan','in':'c','filter':{'n':{'$gt':1}}}", "{'ok':true,'stamp':7,'docs':[{'id':'b','version':2,'value':{'n':5,'t':'x'}}]}")
		wantRead(t, c, three(), "{'op':'scan','in':'c','filter':{'n':{'$gte':1},'t':{'$ne':'x'}}}", "{'ok':true,'stamp':7,'docs':[{'id':'a','version':1,'value':{'n':1}}]}")
	}
}

// P23.4, count, distinct, explain
func TestCountDistinctExplain(t *testing.T) {
	l := append(three(), items("d@4 {'n':[1,7]}")...)
	bare, c := stocked(t, l), stocked(t, l, "x:n", "y:t")
	for _, k := range []*catalog.Catalog{bare, c} {
		wantRead(t, k, l, "{'op':'count','in':'c'}", "{'ok':true,'stamp':7,'count':4}")
		wantRead(t, k, l, "{'op':'count','in':'c','filter':{'n':1}}", "{'ok':true,'stamp':7,'count':2}")
		wantRead(t, k, l, "{'op':'count','in':'c','filter':{'n':9}}", "{'ok':true,'stamp':7,'count':0}")
		wantRead(t, k, l, "{'op':'distinct','in':'c','path':'n'}", "{'ok':true,'stamp':7,'values':[1,5,7]}")
		wantRead(t, k, l, "{'op':'distinct','in':'c','path':'n','filter':{'n':{'$gt':1}}}", "{'ok':true,'stamp':7,'values':[1,5,7]}")
		wantRead(t, k, l, "{'op':'distinct','in':'c','path':'n','filter':{'t':'x'}}", "{'ok':true,'stamp':7,'values':[5]}")
		wantRead(t, k, l, "{'op':'distinct','in':'c','path':'zz.zz'}", "{'ok':true,'stamp':7,'values':[]}")
	}
	wantRead(t, bare, l, "{'op':'explain','in':'c','filter':{'n':1}}", "{'ok':true,'stamp':7,'index':null,'looked':4,'matched':2}")
	wantRead(t, c, l, "{'op':'explain','in':'c'}", "{'ok':true,'stamp':7,'index':null,'looked':4,'matched':4}")
	wantRead(t, c, l, "{'op':'explain','in':'c','filter':{'n':1}}", "{'ok':true,'stamp':7,'index':'x','looked':2,'matched':2}")
	wantRead(t, c, l, "{'op':'explain','in':'c','filter':{'n':{'$gte':1},'t':{'$ne':'x'}}}", "{'ok':true,'stamp':7,'index':'x','looked':3,'matched':2}")
	wantRead(t, c, l, "{'op':'explain','in':'c','filter':{'n':{'$gte':1},'t':'x'}}", "{'ok':true,'stamp':7,'index':'y','looked':1,'matched':1}")
	wantRead(t, c, l, "{'op':'explain','in':'c','filter':{'n':100}}", "{'ok':true,'stamp':7,'index':'x','looked':0,'matched':0}")
}

// P23.4, aggregate: the values in the order of their ids; an error with its stage.
func TestAggregate(t *testing.T) {
	for _, c := range []*catalog.Catalog{stocked(t, three()), stocked(t, three(), "x:n", "y:t!")} {
		wantRead(t, c, three(), "{'op':'aggregate','in':'c','pipe':[]}", "{'ok':true,'stamp':7,'values':[{'n':1},{'n':5,'t':'x'},{}]}")
		wantRead(t, c, three(), "{'op':'aggregate','in':'c','pipe':[{'$match':{'n':{'$gte':1}}},{'$group':{'_id':null,'l':{'$push':'$n'}}}]}", "{'ok':true,'stamp':7,'values':[{'_id':null,'l':[1,5]}]}")
		wantRead(t, c, three(), "{'op':'aggregate','in':'c','pipe':[{'$match':{'n':9}},{'$count':'c'}]}", "{'ok':true,'stamp':7,'values':[{'c':0}]}")
		wantRead(t, c, three(), "{'op':'aggregate','in':'c','pipe':[{'$skip':0},{'$limit':5},{'$set':{'x':{'$add':['$t',1]}}}]}", "{'ok':false,'error':'eval','at':2}")
		wantRead(t, c, three(), "{'op':'aggregate','in':'c','pipe':[{'$set':{'x':{'$divide':[1,0]}}}]}", "{'ok':false,'error':'divide','at':0}")
	}
}

// P23.4, changes
func TestChanges(t *testing.T) {
	log := logOf(t, 3, 2, 3, 5, 6) // the change of 2 has gone
	log = log.With(7, api.Change{In: "d", Id: "x", Kind: inserted})
	for text, want := range map[string]string{
		"{'op':'changes','after':2}":                     "{'ok':false,'error':'horizon'}",
		"{'op':'changes','after':0,'in':'zz'}":           "{'ok':false,'error':'horizon'}",
		"{'op':'changes','after':3}":                     "{'ok':true,'stamp':9,'changes':[{'stamp':5,'in':'c','id':'a','kind':'delete'},{'stamp':6,'in':'c','id':'a','kind':'insert'},{'stamp':7,'in':'d','id':'x','kind':'insert'}],'next':7}",
		"{'op':'changes','after':3,'limit':1}":           "{'ok':true,'stamp':9,'changes':[{'stamp':5,'in':'c','id':'a','kind':'delete'}],'next':5}",
		"{'op':'changes','after':5,'limit':1,'in':'c'}":  "{'ok':true,'stamp':9,'changes':[{'stamp':6,'in':'c','id':'a','kind':'insert'}],'next':7}",
		"{'op':'changes','after':3,'in':'d'}":            "{'ok':true,'stamp':9,'changes':[{'stamp':7,'in':'d','id':'x','kind':'insert'}],'next':7}",
		"{'op':'changes','after':7}":                     "{'ok':true,'stamp':9,'changes':[],'next':7}",
		"{'op':'changes','after':20}":                    "{'ok':true,'stamp':9,'changes':[],'next':20}",
		"{'op':'changes','after':3,'in':'nobody'}":       "{'ok':true,'stamp':9,'changes':[],'next':7}",
		"{'op':'changes','after':4611686018427387904}":   "{'ok':true,'stamp':9,'changes':[],'next':4611686018427387904}",
		"{'op':'changes','after':6,'limit':0,'in':'d' }": "{'ok':true,'stamp':9,'changes':[{'stamp':7,'in':'d','id':'x','kind':'insert'}],'next':7}",
	} {
		wantText(t, text, model.Read(catalog.New(), ask(text), 9, nil, log), quoted(want))
	}
	two := logOf(t, 9, 1, 2)
	wantText(t, "update", model.Read(nil, ask("{'op':'changes','after':1}"), 9, nil, two), quoted("{'ok':true,'stamp':9,'changes':[{'stamp':2,'in':'c','id':'a','kind':'update'}],'next':2}"))
	wantText(t, "no log", model.Read(nil, ask("{'op':'changes','after':1}"), 9, nil, nil), quoted("{'ok':true,'stamp':9,'changes':[],'next':1}"))
}

// P23.4, stat: collections by rising names, their indexes as they were made.
func TestStat(t *testing.T) {
	c := stocked(t, three(), "y:n", "x:t.u!")
	c, _ = c.Create("c-1", 5, val("{}"))
	c, _ = c.Create("b", 0, api.Value{})
	c, _ = c.Commit("b", nil, three()[:2])
	wantText(t, "stat", model.Read(c, ask("{'op':'stat'}"), 8, nil, nil), quoted("{'ok':true,'stamp':8,'docs':5,'collections':["+
		"{'in':'b','count':2,'most':100000,'indexes':[]},"+
		"{'in':'c','count':3,'most':100000,'indexes':[{'name':'y','path':'n','unique':false},{'name':'x','path':'t.u','unique':true}]},"+
		"{'in':'c-1','count':0,'most':5,'indexes':[]}]}"))
	wantText(t, "stat", model.Read(catalog.New(), ask("{'op':'stat'}"), 0, nil, nil), `{"ok":true,"stamp":0,"docs":0,"collections":[]}`)
	wantText(t, "stat", model.Read(nil, ask("{'op':'stat'}"), 0, nil, nil), `{"ok":true,"stamp":0,"docs":0,"collections":[]}`)
}

// P23.4: of another operation ErrArg, ahead of whether there is the collection.
func TestReadOthers(t *testing.T) {
	for _, text := range []string{
		"{'op':'insert','in':'c','id':'a','value':{}}", "{'op':'replace','in':'c','id':'a','value':{}}", "{'op':'update','in':'c','id':'a','ops':{'$inc':{'n':1}}}", "{'op':'modify','in':'d','id':'a','ops':{'$inc':{'n':1}}}", "{'op':'delete','in':'c','id':'a'}",
		"{'op':'txn','steps':[{'op':'delete','in':'c','id':'a'}]}", "{'op':'open','in':'d'}", "{'op':'next','cursor':1}", "{'op':'close','cursor':1}",
		"{'op':'create','in':'c'}", "{'op':'drop','in':'c'}", "{'op':'index','in':'c','name':'y','path':'n'}", "{'op':'unindex','in':'d','name':'x'}",
	} {
		wantText(t, text, model.Read(stocked(t, three()), ask(text), 7, nil, nil), `{"ok":false,"error":"arg"}`)
	}
	wantText(t, "no operation", model.Read(nil, api.Request{}, 7, nil, nil), `{"ok":false,"error":"arg"}`)
}

// P23.4: what would be longer than a text may be is told so.
func TestLongRead(t *testing.T) {
	var l []api.Item
	for i := range 300 {
		l = append(l, items(fmt.Sprintf("%03d@1 {'n':1,'t':'%s'}", i, long(300)))...)
	}
	c := stocked(t, l)
	wantRead(t, c, l, "{'op':'scan','in':'c'}", "{'ok':false,'error':'long'}")
	wantRead(t, c, l, "{'op':'aggregate','in':'c','pipe':[]}", "{'ok':false,'error':'long'}")
	wantRead(t, c, l, "{'op':'count','in':'c'}", "{'ok':true,'stamp':7,'count':300}")
	wantRead(t, c, l, "{'op':'scan','in':'c','skip':299,'fields':{'n':1}}", "{'ok':true,'stamp':7,'docs':[{'id':'299','version':1,'value':{'n':1}}]}")
}
