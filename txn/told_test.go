package txn_test

import (
	"testing"

	"docket/api"
	"docket/txn"
)

func wantTold(t *testing.T, r api.Request, o api.Outcome, want string) {
	t.Helper()
	names, items := txn.Told(r, o, stamp)
	if got := tellTold(names, items); got != want {
		t.Errorf("%+v, %s:\n%s, not\n%s", r, tellOutcome(o), got, want)
	}
}

// The outcomes that may be told, with versions that tell them apart; the stamp is another one.
func outcomes() (fresh, same, other, away api.Outcome) {
	was, now := item("a", 3, `{"n":1,"m":{"k":1}}`), item("a", 5, `{"n":2,"m":{"k":2}}`)
	return made(now), kept(was), became(was, now), gone(was)
}

// P20.2: the id is the request's.
func TestToldInsert(t *testing.T) {
	fresh, _, _, _ := outcomes()
	wantTold(t, ask(`{'op':'insert','in':'c','id':'a','value':{}}`), fresh, `id:"a" version:5`)
	wantTold(t, ask(`{'op':'insert','in':'c','id':'other','value':{}}`), fresh, `id:"other" version:5`)
	wantTold(t, ask(`{'op':'insert','in':'c','value':{}}`), fresh, `id:"" version:5`)
}

// P20.2
func TestToldReplace(t *testing.T) {
	_, same, other, _ := outcomes()
	r := ask(`{'op':'replace','in':'c','id':'a','value':{}}`)
	wantTold(t, r, other, `version:5 changed:true`)
	wantTold(t, r, same, `version:3 changed:false`)
}

// P20.2
func TestToldUpdate(t *testing.T) {
	fresh, same, other, _ := outcomes()
	r := ask(`{'op':'update','in':'c','id':'a','ops':{'$inc':{'n':1}}}`)
	wantTold(t, r, other, `version:5 changed:true fresh:false`)
	wantTold(t, r, same, `version:3 changed:false fresh:false`)
	wantTold(t, r, fresh, `version:5 changed:true fresh:true`)
}

// P20.2: the version is the stamp, not the document's.
func TestToldDelete(t *testing.T) {
	_, same, other, away := outcomes()
	r := ask(`{'op':'delete','in':'c','id':'a'}`)
	wantTold(t, r, away, `version:7`)
	wantTold(t, r, other, `version:7`)
	wantTold(t, r, same, `version:7`)
	if names, items := txn.Told(r, away, maxStamp); tellTold(names, items) != `version:4611686018427387904` {
		t.Error(tellTold(names, items))
	}
}

// P20.2: the value that was, or with new the one that is; null, if there is none.
func TestToldModify(t *testing.T) {
	fresh, same, other, away := outcomes()
	old := ask(`{'op':'modify','in':'c','id':'a','ops':{'$inc':{'n':1}}}`)
	wantTold(t, old, other, `version:5 changed:true fresh:false value:{"n":1,"m":{"k":1}}`)
	wantTold(t, old, same, `version:3 changed:false fresh:false value:{"n":1,"m":{"k":1}}`)
	wantTold(t, old, fresh, `version:5 changed:true fresh:true value:null`)
	fresh.Was = item("a", 1, `{"n":9}`)
	wantTold(t, old, fresh, `version:5 changed:true fresh:true value:null`)
	now := ask(`{'op':'modify','in':'c','id':'a','ops':{'$inc':{'n':1}},'new':true}`)
	wantTold(t, now, other, `version:5 changed:true fresh:false value:{"n":2,"m":{"k":2}}`)
	wantTold(t, now, same, `version:3 changed:false fresh:false value:{"n":1,"m":{"k":1}}`)
	wantTold(t, now, fresh, `version:5 changed:true fresh:true value:{"n":2,"m":{"k":2}}`)
	wantTold(t, now, away, `version:0 changed:true fresh:false value:null`)
	wantTold(t, old, away, `version:0 changed:true fresh:false value:{"n":1,"m":{"k":1}}`)
	other.Is = false
	wantTold(t, now, other, `version:5 changed:true fresh:false value:null`)
	other.There = false
	wantTold(t, old, other, `version:5 changed:true fresh:false value:null`)
}

// P20.2: what the fields let through; of null nothing is left out.
func TestToldFields(t *testing.T) {
	fresh, _, other, _ := outcomes()
	for fields, want := range map[string][2]string{
		`{}`:          {`{"n":1,"m":{"k":1}}`, `{"n":2,"m":{"k":2}}`},
		`{'n':1}`:     {`{"n":1}`, `{"n":2}`},
		`{'n':0}`:     {`{"m":{"k":1}}`, `{"m":{"k":2}}`},
		`{'m.k':1}`:   {`{"m":{"k":1}}`, `{"m":{"k":2}}`},
		`{'m.k':0}`:   {`{"n":1,"m":{}}`, `{"n":2,"m":{}}`},
		`{'x.y.z':1}`: {`{}`, `{}`},
	} {
		rest := `,'in':'c','id':'a','ops':{'$inc':{'n':1}},'fields':` + fields + `}`
		wantTold(t, ask(`{'op':'modify'`+rest), other, `version:5 changed:true fresh:false value:`+want[0])
		wantTold(t, ask(`{'op':'modify','new':true`+rest), other, `version:5 changed:true fresh:false value:`+want[1])
		wantTold(t, ask(`{'op':'modify'`+rest), fresh, `version:5 changed:true fresh:true value:null`)
	}
}

// P20.2: the whole, if ParseFields refuses them.
func TestToldFieldsThatAreNone(t *testing.T) {
	_, _, other, _ := outcomes()
	for _, fields := range []string{`null`, `7`, `[]`, `{"n":2}`, `{"n":1,"m":0}`, `{"m":1,"m.k":1}`, `{"n":1,"m.0":1}`, `{"n":1,"a..b":1}`} {
		r := api.Request{Op: api.OpModify, In: "c", Id: "a", Fields: val(fields)}
		wantTold(t, r, other, `version:5 changed:true fresh:false value:{"n":1,"m":{"k":1}}`)
		r.New = true
		wantTold(t, r, other, `version:5 changed:true fresh:false value:{"n":2,"m":{"k":2}}`)
	}
}

// P20.2: of an error nothing, and nothing of another operation.
func TestToldNothing(t *testing.T) {
	fresh, same, other, away := outcomes()
	for _, o := range []api.Outcome{fresh, same, other, away, {}} {
		for op := -2; op <= 30; op++ {
			r := api.Request{Op: op, In: "c", Id: "a"}
			names, items := txn.Told(r, o, stamp)
			if changing := op >= api.OpInsert && op <= api.OpDelete; changing != (len(names) > 0) || len(names) != len(items) {
				t.Errorf("op %d: %s", op, tellTold(names, items))
			}
			for _, e := range []api.Errno{isThere, isStale, -1, 12345} {
				o.E = e
				wantTold(t, r, o, "")
				wantTold(t, r, failed(e), "")
			}
			o.E = isOK
		}
		wantTold(t, api.Request{Op: 1<<32 + api.OpInsert}, o, "")
	}
}

// P20.3
func TestKind(t *testing.T) {
	fresh, same, other, away := outcomes()
	for _, c := range []struct {
		o    api.Outcome
		want int
	}{
		{fresh, inserted}, {other, updated}, {away, deleted}, {same, 0}, {failed(isThere), 0}, {api.Outcome{}, 0},
		{api.Outcome{Changed: true}, inserted}, // neither is: there was none
		{api.Outcome{Changed: true, Is: true}, inserted},
		{api.Outcome{Changed: true, There: true}, deleted},
		{api.Outcome{Changed: true, There: true, Is: true, Fresh: true}, updated},
		{api.Outcome{There: true}, 0}, {api.Outcome{Is: true, Fresh: true}, 0},
	} {
		if got := txn.Kind(c.o); got != c.want {
			t.Errorf("%s: %d, not %d", tellOutcome(c.o), got, c.want)
		}
	}
}

// Example 1 and 2: One and what is told of it.
func TestExamplesOfOne(t *testing.T) {
	for _, c := range []struct {
		text  string
		was   string
		e     api.Errno
		told  string
		kind  int
		value string
	}{
		{`{'op':'insert','in':'c','id':'a','value':{}}`, ``, isOK, `id:"a" version:7`, inserted, `{}`},
		{`{'op':'insert','in':'c','id':'a','value':{}}`, `{}`, isThere, ``, 0, `null`},
		{`{'op':'update','in':'c','id':'a','ops':{'$inc':{'n':1}}}`, ``, isNone, ``, 0, `null`},
		{`{'op':'update','in':'c','id':'a','ops':{'$inc':{'n':1}},'upsert':true}`, ``, isOK, `version:7 changed:true fresh:true`, inserted, `{"n":1}`},
		{`{'op':'update','in':'c','id':'a','ops':{'$set':{'n':1}}}`, `{"n":1}`, isOK, `version:3 changed:false fresh:false`, 0, `{"n":1}`},
		{`{'op':'update','in':'c','id':'a','ops':{'$set':{'n':1}},'version':2}`, `{"n":1}`, isStale, ``, 0, `null`},
	} {
		was := none
		if c.was != "" {
			was = item("a", 3, c.was)
		}
		o := txn.One(ask(c.text), was, c.was != "", stamp)
		if o.E != c.e || txn.Kind(o) != c.kind || tell(o.Now.Value) != c.value {
			t.Errorf("%s: %s", c.text, tellOutcome(o))
		}
		wantTold(t, ask(c.text), o, c.told)
	}
}
