package txn_test

import (
	"strconv"
	"strings"
	"testing"

	"docket/api"
	"docket/txn"
)

// stamp is that of the tests whose stamp says nothing.
const stamp = 7

// none is the document that is not there.
var none = api.Item{}

func wantOne(t *testing.T, r api.Request, was api.Item, there bool, want api.Outcome) {
	t.Helper()
	if got := txn.One(r, was, there, stamp); tellOutcome(got) != tellOutcome(want) {
		t.Errorf("%+v of %s %v:\n%s, not\n%s", r, tellItem(was), there, tellOutcome(got), tellOutcome(want))
	}
}

// of and ofNone ask for what becomes of a document, and of none.
func of(t *testing.T, text string, was api.Item, want api.Outcome) {
	t.Helper()
	wantOne(t, ask(text), was, true, want)
}

func ofNone(t *testing.T, text string, want api.Outcome) {
	t.Helper()
	wantOne(t, ask(text), none, false, want)
}

// P20.1
func TestInsert(t *testing.T) {
	ofNone(t, `{'op':'insert','in':'c','id':'a','value':{}}`, made(item("a", 7, `{}`)))
	ofNone(t, `{'op':'insert','in':'c','id':'x/y','value':{'n':[1]}}`, made(item("x/y", 7, `{"n":[1]}`)))
	of(t, `{'op':'insert','in':'c','id':'a','value':{'n':2}}`, item("a", 3, `{"n":1}`), failed(isThere))
	of(t, `{'op':'insert','in':'c','id':'a','value':{'n':1}}`, item("a", 3, `{"n":1}`), failed(isThere))
	of(t, `{'op':'insert','in':'c','id':'a','value':{}}`, none, failed(isThere))
}

// P20.1: an insert has no version, and nothing of the operators is looked at.
func TestInsertLooksAtNothingElse(t *testing.T) {
	r := ask(`{'op':'insert','in':'c','id':'a','value':{'n':1}}`)
	r.Version, r.Ops, r.Filters, r.Upsert, r.New = 4, val(`7`), val(`7`), true, true
	wantOne(t, r, none, false, made(item("a", 7, `{"n":1}`)))
	wantOne(t, r, item("a", 4, `{}`), true, failed(isThere))
}

// P20.1
func TestReplace(t *testing.T) {
	was := item("a", 3, `{"n":1,"m":2}`)
	ofNone(t, `{'op':'replace','in':'c','id':'a','value':{}}`, failed(isNone))
	ofNone(t, `{'op':'replace','in':'c','id':'a','value':{},'version':3}`, failed(isNone))
	of(t, `{'op':'replace','in':'c','id':'a','value':{'n':2}}`, was, became(was, item("a", 7, `{"n":2}`)))
	of(t, `{'op':'replace','in':'c','id':'a','value':{'n':2},'version':3}`, was, became(was, item("a", 7, `{"n":2}`)))
	of(t, `{'op':'replace','in':'c','id':'a','value':{'n':2},'version':2}`, was, failed(isStale))
	of(t, `{'op':'replace','in':'c','id':'a','value':{'n':2},'version':4}`, was, failed(isStale))
	of(t, `{'op':'replace','in':'c','id':'a','value':{'n':1,'m':2},'version':4611686018427387904}`, was, failed(isStale))
	of(t, `{'op':'replace','in':'c','id':'a','value':{'n':1,'m':2}}`, was, kept(was))
	of(t, `{'op':'replace','in':'c','id':'a','value':{'n':1,'m':2},'version':3}`, was, kept(was))
	of(t, `{'op':'replace','in':'c','id':'a','value':{'m':2,'n':1}}`, was, became(was, item("a", 7, `{"m":2,"n":1}`)))
	of(t, `{'op':'replace','in':'c','id':'a','value':{}}`, was, became(was, item("a", 7, `{}`)))
}

// P20.1: a replace is never an upsert.
func TestReplaceMakesNothing(t *testing.T) {
	r := ask(`{'op':'replace','in':'c','id':'a','value':{'n':1}}`)
	r.Upsert, r.Ops = true, val(`{"$set":{"n":5}}`)
	wantOne(t, r, none, false, failed(isNone))
	wantOne(t, r, item("a", 1, `{}`), true, became(item("a", 1, `{}`), item("a", 7, `{"n":1}`)))
}

// both asks for what an update does, and a modify: they do the same.
func both(t *testing.T, rest string, was api.Item, there bool, want api.Outcome) {
	t.Helper()
	wantOne(t, ask(`{'op':'update','in':'c','id':'a',`+rest+`}`), was, there, want)
	for _, more := range []string{``, `,'new':true`, `,'fields':{'n':0}`, `,'new':true,'fields':{'m':1}`} {
		wantOne(t, ask(`{'op':'modify','in':'c','id':'a',`+rest+more+`}`), was, there, want)
	}
}

// P20.1: a document that is there.
func TestUpdate(t *testing.T) {
	was := item("a", 3, `{"n":1}`)
	both(t, `'ops':{'$inc':{'n':1}}`, was, true, became(was, item("a", 7, `{"n":2}`)))
	both(t, `'ops':{'$inc':{'n':1}},'upsert':true`, was, true, became(was, item("a", 7, `{"n":2}`)))
	both(t, `'ops':{'$inc':{'n':1}},'version':3`, was, true, became(was, item("a", 7, `{"n":2}`)))
	both(t, `'ops':{'$inc':{'n':1}},'version':2`, was, true, failed(isStale))
	both(t, `'ops':{'$inc':{'n':1}},'version':7,'upsert':true`, was, true, failed(isStale))
	both(t, `'ops':{'$set':{'n':1}}`, was, true, kept(was))
	both(t, `'ops':{'$set':{'n':1}},'version':3`, was, true, kept(was))
	both(t, `'ops':{'$set':{'n':1}},'version':2`, was, true, failed(isStale))
	both(t, `'ops':{'$setOnInsert':{'m':1}}`, was, true, kept(was))
	both(t, `'ops':{'$setOnInsert':{'m':1}},'upsert':true`, was, true, kept(was))
	both(t, `'ops':{'$unset':{'n':1}}`, was, true, became(was, item("a", 7, `{}`)))
	l := item("a", 3, `{"l":[{"q":1},{"q":2}]}`)
	both(t, `'ops':{'$inc':{'l.$[e].q':10}},'filters':[{'e.q':{'$gt':1}}]`, l, true, became(l, item("a", 7, `{"l":[{"q":1},{"q":12}]}`)))
}

// P20.1: a document that is not there.
func TestUpsert(t *testing.T) {
	both(t, `'ops':{'$inc':{'n':1}}`, none, false, failed(isNone))
	both(t, `'ops':{'$inc':{'n':1}},'version':2`, none, false, failed(isNone))
	both(t, `'ops':{'$inc':{'n':1}},'upsert':true,'version':2`, none, false, failed(isStale))
	both(t, `'ops':{'$inc':{'n':1}},'upsert':true,'version':7`, none, false, failed(isStale))
	both(t, `'ops':{'$inc':{'n':1}},'upsert':true`, none, false, made(item("a", 7, `{"n":1}`)))
	both(t, `'ops':{'$set':{'x.y':1},'$setOnInsert':{'m':1}},'upsert':true`, none, false, made(item("a", 7, `{"x":{"y":1},"m":1}`)))
	both(t, `'ops':{'$unset':{'n':1}},'upsert':true`, none, false, made(item("a", 7, `{}`)))
}

// P20.1: of Parse, ahead of all; of Apply, behind ErrNone and ErrStale.
func TestUpdateErrors(t *testing.T) {
	was := item("a", 3, `{"n":"x"}`)
	for text, e := range map[string]api.Errno{`{}`: api.ErrUpdate, `7`: api.ErrUpdate, `{"$go":{"n":1}}`: api.ErrVerb, `{"$pop":{"n":2}}`: api.ErrGive, `{"$set":{"a":1,"a.b":2}}`: api.ErrClash, `{"$set":{"a..b":1}}`: api.ErrPath, `{"$set":{"l.$[e]":1}}`: api.ErrFilters, `{"$pull":{"l":{"q":{"$x":1}}}}`: api.ErrOperator} {
		for _, op := range []int{api.OpUpdate, api.OpModify} {
			for _, upsert := range []bool{false, true} {
				for _, version := range []int64{0, 3, 4} {
					r := api.Request{Op: op, In: "c", Id: "a", Ops: val(text), Upsert: upsert, Version: version}
					wantOne(t, r, was, true, failed(e))
					wantOne(t, r, none, false, failed(e))
				}
			}
		}
	}
	both(t, `'ops':{'$inc':{'n':1}}`, was, true, failed(api.ErrKind))
	both(t, `'ops':{'$inc':{'n':1}},'version':2`, was, true, failed(isStale))
	both(t, `'ops':{'$set':{'l.$[]':1}}`, none, false, failed(isNone))
	both(t, `'ops':{'$set':{'l.$[]':1}},'upsert':true,'version':1`, none, false, failed(isStale))
	both(t, `'ops':{'$set':{'l.$[]':1}},'upsert':true`, none, false, failed(api.ErrWhere))
	both(t, `'ops':{'$set':{'m':1,'n.x':1}}`, was, true, failed(api.ErrCross))
	both(t, `'ops':{'$inc':{'n':9223372036854775807}}`, item("a", 3, `{"n":1}`), true, failed(api.ErrOverflow))
	both(t, `'ops':{'$set':{'t':'`+strings.Repeat("x", api.MaxDoc)+`'}}`, was, true, failed(api.ErrBig))
}

// P20.1: filters that are none, ahead of all as well.
func TestFiltersErrors(t *testing.T) {
	for text, e := range map[string]api.Errno{`7`: api.ErrFilters, `[{"e":1}]`: api.ErrFilters, `[{"f":1},{"f":1}]`: api.ErrFilters} {
		r := api.Request{Op: api.OpUpdate, In: "c", Id: "a", Ops: val(`{"$set":{"n":1}}`), Filters: val(text), Version: 9}
		wantOne(t, r, none, false, failed(e))
		wantOne(t, r, item("a", 3, `{}`), true, failed(e))
	}
}

// P20.1: a document is nested at most MaxFit deep; update.Apply takes deeper ones.
func TestFit(t *testing.T) {
	was := item("a", 3, `{"n":1}`)
	for _, depth := range []int{1, maxFit - 1, maxFit} {
		now := item("a", 7, `{"n":`+nest(depth)+`}`)
		both(t, `'ops':{'$set':{'n':`+nest(depth)+`}}`, was, true, became(was, now))
		both(t, `'ops':{'$set':{'n':`+nest(depth)+`}},'upsert':true`, none, false, made(now))
	}
	for _, depth := range []int{maxFit + 1, maxFit + 2, 60} {
		both(t, `'ops':{'$set':{'n':`+nest(depth)+`}}`, was, true, failed(isDepth))
		both(t, `'ops':{'$set':{'n':`+nest(depth)+`}},'upsert':true`, none, false, failed(isDepth))
		both(t, `'ops':{'$set':{'n':`+nest(depth)+`}},'version':4`, was, true, failed(isStale))
		both(t, `'ops':{'$set':{'n':`+nest(depth)+`}}`, none, false, failed(isNone))
	}
}

// P20.1: it is the new Value's depth that counts, also where it is the old one's.
func TestFitOfTheNewValue(t *testing.T) {
	most, over := item("a", 3, `{"n":`+nest(maxFit)+`}`), item("a", 3, `{"n":`+nest(maxFit+1)+`}`)
	both(t, `'ops':{'$set':{'m':1}}`, most, true, became(most, item("a", 7, `{"n":`+nest(maxFit)+`,"m":1}`)))
	both(t, `'ops':{'$unset':{'m':1}}`, most, true, kept(most))
	both(t, `'ops':{'$set':{'m':1}}`, over, true, failed(isDepth))
	both(t, `'ops':{'$unset':{'m':1}}`, over, true, failed(isDepth))
	both(t, `'ops':{'$unset':{'n':1}}`, over, true, became(over, item("a", 7, `{}`)))
	of(t, `{'op':'delete','in':'c','id':'a'}`, over, gone(over))
}

// P20.1
func TestDelete(t *testing.T) {
	was := item("a", 3, `{"n":1}`)
	ofNone(t, `{'op':'delete','in':'c','id':'a'}`, failed(isNone))
	ofNone(t, `{'op':'delete','in':'c','id':'a','version':3}`, failed(isNone))
	of(t, `{'op':'delete','in':'c','id':'a'}`, was, gone(was))
	of(t, `{'op':'delete','in':'c','id':'a','version':3}`, was, gone(was))
	of(t, `{'op':'delete','in':'c','id':'a','version':2}`, was, failed(isStale))
	of(t, `{'op':'delete','in':'c','id':'a','version':7}`, was, failed(isStale))
	r := ask(`{'op':'delete','in':'c','id':'a'}`)
	r.Upsert = true
	wantOne(t, r, none, false, failed(isNone))
}

// P20.1: the version 0 says nothing, also where the document has it.
func TestNoVersion(t *testing.T) {
	for _, version := range []int64{0, 1, maxStamp, -1} {
		was := item("a", version, `{"n":1}`)
		of(t, `{'op':'delete','in':'c','id':'a'}`, was, gone(was))
		of(t, `{'op':'replace','in':'c','id':'a','value':{}}`, was, became(was, item("a", 7, `{}`)))
		r := api.Request{Op: api.OpDelete, In: "c", Id: "a", Version: version}
		wantOne(t, r, was, true, gone(was))
		if version != 0 {
			wantOne(t, r, item("a", 0, `{}`), true, failed(isStale))
			wantOne(t, r, item("a", -version, `{}`), true, failed(isStale))
		}
	}
}

// P20.1: any other operation.
func TestNoChange(t *testing.T) {
	was := item("a", 3, `{"n":1}`)
	changing := map[int]bool{api.OpInsert: true, api.OpReplace: true, api.OpUpdate: true, api.OpModify: true, api.OpDelete: true}
	for op := -3; op <= 30; op++ {
		r := api.Request{Op: op, In: "c", Id: "a", Value: val(`{}`), Ops: val(`{"$set":{"n":2}}`), Upsert: true}
		if changing[op] {
			if o, p := txn.One(r, was, true, stamp), txn.One(r, none, false, stamp); o.E != isOK && p.E != isOK {
				t.Errorf("op %d: %s, %s", op, tellOutcome(o), tellOutcome(p))
			}
			continue
		}
		wantOne(t, r, was, true, failed(isArg))
		wantOne(t, r, none, false, failed(isArg))
	}
	for _, op := range []int{1 << 62, -1 << 63, 1<<63 - 1, 1<<32 + api.OpInsert} {
		wantOne(t, api.Request{Op: op}, none, false, failed(isArg))
	}
	of(t, `{'op':'get','in':'c','id':'a'}`, was, failed(isArg))
	ofNone(t, `{'op':'txn','steps':[{'op':'insert','in':'c','id':'a','value':{}}]}`, failed(isArg))
}

// P20.1: what is handed in beside a false is no document.
func TestNotThere(t *testing.T) {
	was := item("a", 3, `{"n":1}`)
	wantOne(t, ask(`{'op':'insert','in':'c','id':'a','value':{}}`), was, false, made(item("a", 7, `{}`)))
	wantOne(t, ask(`{'op':'replace','in':'c','id':'a','value':{}}`), was, false, failed(isNone))
	wantOne(t, ask(`{'op':'delete','in':'c','id':'a','version':3}`), was, false, failed(isNone))
	both(t, `'ops':{'$inc':{'n':1}},'upsert':true`, was, false, made(item("a", 7, `{"n":1}`)))
	both(t, `'ops':{'$inc':{'n':1}},'upsert':true,'version':3`, was, false, failed(isStale))
}

// P20.1: the stamp, whatever number it is; the collection has no part.
func TestStamps(t *testing.T) {
	for _, s := range []int64{0, 1, maxStamp, -5, 1<<63 - 1} {
		for _, in := range []string{"c", "d", ""} {
			r := api.Request{Op: api.OpInsert, In: in, Id: "a", Value: val(`{"n":1}`)}
			if o := txn.One(r, none, false, s); tellOutcome(o) != tellOutcome(made(item("a", s, `{"n":1}`))) {
				t.Errorf("%s: %s", strconv.FormatInt(s, 10), tellOutcome(o))
			}
			r.Op = api.OpReplace
			if o := txn.One(r, item("a", 3, `{}`), true, s); tellOutcome(o) != tellOutcome(became(item("a", 3, `{}`), item("a", s, `{"n":1}`))) {
				t.Errorf("%s: %s", strconv.FormatInt(s, 10), tellOutcome(o))
			}
			if o := txn.One(r, item("a", 3, `{"n":1}`), true, s); tellOutcome(o) != tellOutcome(kept(item("a", 3, `{"n":1}`))) {
				t.Errorf("%s: %s", strconv.FormatInt(s, 10), tellOutcome(o))
			}
		}
	}
}
