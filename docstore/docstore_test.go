package docstore_test

import (
	"fmt"
	"slices"
	"strings"
	"testing"

	"docket/api"
	"docket/docstore"
	"docket/prim"
	"docket/sched"
)

func worlds() []*prim.World { return []*prim.World{prim.Scripted(), prim.Real(), nil} }

// P24.1: the limits of each number, and what a store has when it is made.
func TestNew(t *testing.T) {
	good := api.StoreConfig{Clients: 2, Stripes: 2, Nodes: 2, Keep: 2}
	for _, x := range []struct {
		lay  func(c *api.StoreConfig, n int)
		most int
	}{
		{func(c *api.StoreConfig, n int) { c.Clients = n }, maxClients},
		{func(c *api.StoreConfig, n int) { c.Stripes = n }, maxStripes},
		{func(c *api.StoreConfig, n int) { c.Nodes = n }, maxNodes},
		{func(c *api.StoreConfig, n int) { c.Keep = n }, maxKeep},
	} {
		for _, w := range worlds() {
			for _, n := range []int{-1 << 63, -1, 0, x.most + 1, 1<<63 - 1} {
				c := good
				x.lay(&c, n)
				if s, e := docstore.New(w, c); s != nil || e != isArg {
					t.Errorf("%+v: %v, %d", c, s, e)
				}
				if p, e := docstore.Run(c, make([][]string, 2), nil); e != isArg || fmt.Sprint(p) != fmt.Sprint(api.Played{}) {
					t.Errorf("Run of %+v: %+v, %d", c, p, e)
				}
			}
			for _, n := range []int{1, x.most} {
				c := good
				x.lay(&c, n)
				s := mustMake(t, w, c)
				e := s.End()
				if len(e.Pins) != c.Clients*(1+maxCursors) || slices.Max(e.Pins) != 0 {
					t.Errorf("%+v: pins %v", c, e.Pins)
				}
				if e.Pins = nil; fmt.Sprint(e) != fmt.Sprint(api.Ending{}) {
					t.Errorf("%+v: %+v", c, e)
				}
			}
		}
	}
	if s, e := docstore.New(nil, api.StoreConfig{}); s != nil || e != isArg {
		t.Error(s, e)
	}
}

// P24.1: no step is taken; with it, how many changes are kept, and how many nodes there are at most.
func TestNewTakesNoStep(t *testing.T) {
	w := prim.Scripted()
	r, e := sched.Run([]func(*client){func(c *client) { mustMake(t, w, of(3)) }}, enough())
	if e != isOK || len(r.Events) > 0 || r.Ends[0] != hasEnded {
		t.Errorf("%d: %+v", e, r)
	}
	for keep := 1; keep < 4; keep++ {
		s := stocked(t, api.StoreConfig{Clients: 1, Stripes: 1, Nodes: 2, Keep: keep}, "a", "b", "e", "f")
		wantCall(t, s, 0, fmt.Sprintf("{'op':'changes','after':%d,'limit':1}", 5-keep), fmt.Sprintf("{'ok':true,'stamp':5,'changes':[{'stamp':%d,'in':'c','id':'%s','kind':'insert'}],'next':%d}", 6-keep, []string{"", "f", "e", "b"}[keep], 6-keep), 5)
		wantCall(t, s, 0, fmt.Sprintf("{'op':'changes','after':%d}", 4-keep), "{'ok':false,'error':'horizon'}", 5)
		wantCall(t, s, 0, insert("g", 1), "{'ok':false,'error':'nodes'}", 6)
	}
}

// P24.2: of a client that there is not.
func TestNoSuchClient(t *testing.T) {
	for _, w := range worlds() {
		s := mustMake(t, w, of(2))
		for _, n := range []int{-1 << 63, -1, 2, 3, maxClients, 1<<63 - 1} {
			steps := runOne(t, s, func(c *client) {
				if reply, stamp := s.Call(c, n, quoted("{'op':'create','in':'c'}")); reply != "" || stamp != -1 {
					t.Errorf("client %d: %q, %d", n, reply, stamp)
				}
			})
			if steps != "" || s.End().Stamp != 0 {
				t.Errorf("client %d: %s, %+v", n, steps, s.End())
			}
		}
	}
}

// P24.2: the steps with which a call begins and ends bear the client's number in the store, whoever takes them; and so do the notes, with the text as it was handed in, and the reply.
func TestCall(t *testing.T) {
	s := stocked(t, of(3), "a")
	raw := quoted(" {'id' : 'a','op':'get', 'in':'c' } ")
	idle := func(*client) {}
	r, e := sched.Run([]func(*client){idle, func(c *client) { s.Call(c, 2, raw); s.Call(c, 0, "no") }}, enough())
	if got := tellRun(r.Events); e != isOK || got != "1:call8/2 1:ld7/0 1:st7/3 1:ld7/0 1:get6/1 1:st7/3 1:ret8/2 1:call8/0 1:ret8/0" {
		t.Errorf("%d: %s", e, got)
	}
	want := []api.Note{{At: 1, Client: 1, Kind: noteCall, Text: raw}, {At: 7, Client: 1, Kind: noteReturn, Text: quoted("{'ok':true,'version':2,'value':{'n':0}}")}, {At: 8, Client: 1, Kind: noteCall, Text: "no"}, {At: 9, Client: 1, Kind: noteReturn, Text: no("token")}}
	if !slices.Equal(r.Notes, want) {
		t.Errorf("%+v", r.Notes)
	}
}

// P24.2: what request.Parse refuses is told with its error and number, and takes no steps; whatever it is.
func TestNoRequest(t *testing.T) {
	s := stocked(t, of(1), "a")
	was := fmt.Sprint(s.End())
	for raw, want := range map[string]string{
		"": "short", "{": "short", "{}": "request", "5": "request", "{'op':'go'}": "op", "{'op':'get','in':'c'}": "missing", "{'op':'get','in':'c','id':'a','x':1}": "member", "{'op':'get','in':'C','id':'a'}": "collection", "{'op':'get','in':'c','id':''}": "id",
		"{'op':'scan','in':'c','skip':-1}": "bad", "{'op':'insert','in':'c','value':1}": "doc", "\xff": "token", strings.Repeat(" ", 65537): "long", "{'op':'stat'} x": "tail",
	} {
		var reply string
		var stamp int64
		steps := runOne(t, s, func(c *client) { reply, stamp = s.Call(c, 0, quoted(raw)) })
		if reply != no(want) || stamp != -1 || steps != "call8/0 ret8/0" {
			t.Errorf("%.40q: %s, %d, %s", raw, reply, stamp, steps)
		}
	}
	wantCall(t, s, 0, "{'op':'txn','steps':[{'op':'delete','in':'c','id':'a'},{'op':'insert','in':'c','value':{}}]}", "{'ok':false,'error':'missing','at':1}", -1)
	if now := fmt.Sprint(s.End()); now != was {
		t.Errorf("%s, not %s", now, was)
	}
}

// P24.2: with a nil client, and in a nil world, a call is done at once.
func TestByNobody(t *testing.T) {
	s := mustMake(t, nil, of(1))
	wantCall(t, s, 0, "{'op':'create','in':'c'}", "{'ok':true,'stamp':1}", 1)
	wantCall(t, s, 0, insert("a", 1), "{'ok':true,'id':'a','version':2}", 2)
	if got := runOne(t, s, func(c *client) { s.Call(c, 0, quoted(get("a"))) }); got != "call8/0 ld7/0 st7/1 ld7/0 get6/1 st7/1 ret8/0" {
		t.Error(got)
	}
}

// P24.7: on a nil Store.
func TestNilStore(t *testing.T) {
	var s *docstore.Store
	if reply, stamp := s.Call(nil, 0, quoted("{'op':'stat'}")); reply != "" || stamp != -1 {
		t.Error(reply, stamp)
	}
	if n := s.Settle(); n != 0 {
		t.Error(n)
	}
	if e := s.End(); fmt.Sprint(e) != fmt.Sprint(api.Ending{}) || e.Pins != nil {
		t.Errorf("%+v", e)
	}
	r, e := sched.Run([]func(*client){func(c *client) { s.Call(c, 0, "x") }}, enough())
	if e != isOK || len(r.Events)+len(r.Notes) > 0 {
		t.Errorf("%d: %+v", e, r)
	}
}

// P24.7: all of End, in both worlds: collections by rising names, with where their trees are; documents by rising whole keys; no steps.
func TestEnd(t *testing.T) {
	for _, w := range worlds() {
		s := mustMake(t, w, api.StoreConfig{Clients: 2, Stripes: 3, Nodes: 100, Keep: 5})
		mustCall(t, s, 0, "{'op':'create','in':'d','most':3,'schema':{'type':'object'}}", "{'op':'create','in':'c'}", "{'op':'create','in':'c-1'}", "{'op':'index','in':'d','name':'x','path':'n','unique':true}",
			"{'op':'insert','in':'c-1','id':'a','value':{'n':1}}", "{'op':'insert','in':'d','id':'a','value':{'n':2}}", "{'op':'open','in':'d'}")
		for i, id := range []string{"~", "b", "!", "e", "f"} {
			mustCall(t, s, 1, insert(id, i))
		}
		mustCall(t, s, 1, "{'op':'delete','in':'d','id':'a'}")
		e := s.End()
		docs := ""
		for _, x := range e.Docs {
			docs += fmt.Sprint(x.Key, "@", x.Version, " ", x.Value.Items[0].Int, " ")
		}
		if docs != "c-1/a@5 1 c/!@9 2 c/b@8 1 c/e@10 3 c/f@11 4 c/~@7 0 " {
			t.Error(docs)
		}
		colls := ""
		for _, k := range e.Colls {
			colls += fmt.Sprint(k.Name, " ", k.Count, "/", k.Most, " ", k.Schema.Kind, " ", k.Top, " ", k.Specs, "; ")
		}
		if colls != "c 5/100000 0 {12 1} []; c-1 1/100000 0 {1 1} []; d 0/3 6 {0 0} [{x n true}]; " {
			t.Error(colls)
		}
		e.Colls, e.Docs = nil, nil
		if got := fmt.Sprintf("%+v", e); got != "{Stamp:12 Colls:[] Docs:[] Made:12 Pooled:0 Retired:5 Reached:7 Entries:0 Pins:[0 0 7 0 0 0 0 0 0 0]}" {
			t.Error(got)
		}
		if steps := runOne(t, s, func(*client) { s.End(); s.Settle() }); steps != "" {
			t.Error(steps)
		}
		// Of what was retired behind the cursor's state nothing is freed as long as that is pinned.
		if n := s.Settle(); n != 0 || s.End().Retired != 5 {
			t.Error(n, s.End())
		}
		mustCall(t, s, 0, "{'op':'close','cursor':1}")
		if n := s.Settle(); n != 5 || s.End().Retired != 0 || s.End().Pooled != 5 || s.Settle() != 0 {
			t.Error(n, s.End())
		}
	}
}

// P24.7: what End answers is new each time: whoever writes into it changes nothing.
func TestEndIsNew(t *testing.T) {
	s := stocked(t, of(1), "a", "b")
	mustCall(t, s, 0, "{'op':'index','in':'c','name':'x','path':'n'}")
	was := fmt.Sprint(s.End())
	e := s.End()
	e.Pins[0], e.Docs[0].Key, e.Docs[1].Version, e.Colls[0].Name, e.Colls[0].Specs[0].Name = 9, "no", 9, "no", "no"
	_ = append(e.Docs[:1], api.Item{})
	if now := fmt.Sprint(s.End()); now != was {
		t.Errorf("%s, not %s", now, was)
	}
}

// P24.4: four cursors of each client, with numbers of their own, each client's its own; a page has as many documents as was said, 32 if nothing was; what is written meanwhile has no part.
func TestCursors(t *testing.T) {
	for _, w := range worlds() {
		s := mustMake(t, w, of(2))
		mustCall(t, s, 0, "{'op':'create','in':'c'}", "{'op':'create','in':'d'}")
		for i := range 40 {
			mustCall(t, s, 0, insert(fmt.Sprint("k", i), i))
		}
		for n := range 2 {
			wantCall(t, s, n, "{'op':'next','cursor':1}", "{'ok':false,'error':'none'}", -1)
			wantCall(t, s, n, "{'op':'open','in':'e'}", "{'ok':false,'error':'coll'}", 42)
			for i, batch := range []string{"", ",'batch':0", ",'batch':3", ",'batch':256"} {
				wantCall(t, s, n, "{'op':'open','in':'c'"+batch+"}", fmt.Sprintf("{'ok':true,'cursor':%d,'stamp':42}", i+1), 42)
			}
			wantCall(t, s, n, "{'op':'open','in':'c'}", "{'ok':false,'error':'full'}", -1)
		}
		for i := range 40 {
			mustCall(t, s, 0, "{'op':'delete','in':'c','id':'"+fmt.Sprint("k", i)+"'}")
		}
		mustCall(t, s, 0, "{'op':'drop','in':'c'}")
		for n := range 2 {
			var seen []string
			for i, want := range []string{"32 false", "32 false", "3 false", "40 true", "8 true", "8 true", "3 false", "0 true"} {
				reply, stamp := s.Call(nil, n, quoted(fmt.Sprintf("{'op':'next','cursor':%d}", i%4+1)))
				if got := fmt.Sprint(strings.Count(reply, `"id":`), " ", strings.HasSuffix(reply, `"done":true}`)); got != want || stamp != -1 || !strings.HasPrefix(reply, `{"ok":true`) {
					t.Errorf("page %d: %s, not %s: %s", i, got, want, reply)
				}
				if i%4 == 0 {
					for _, part := range strings.Split(reply, `"id":"`)[1:] {
						seen = append(seen, part[:strings.Index(part, `"`)])
					}
				}
			}
			slices.Sort(seen)
			if seen = slices.Compact(seen); len(seen) != 40 {
				t.Errorf("%d documents: %q", len(seen), seen)
			}
			wantCall(t, s, n, "{'op':'close','cursor':2}", "{'ok':true}", -1)
			wantCall(t, s, n, "{'op':'close','cursor':2}", "{'ok':false,'error':'none'}", -1)
			wantCall(t, s, n, "{'op':'next','cursor':2}", "{'ok':false,'error':'none'}", -1)
			wantCall(t, s, n, "{'op':'open','in':'c'}", "{'ok':false,'error':'coll'}", 83)
			wantCall(t, s, n, "{'op':'open','in':'d','fields':{'n':1}}", "{'ok':true,'cursor':5,'stamp':83}", 83)
			wantCall(t, s, n, "{'op':'next','cursor':5}", "{'ok':true,'docs':[],'done':true}", -1)
			wantCall(t, s, n, "{'op':'next','cursor':0}", "{'ok':false,'error':'bad'}", -1)
			wantCall(t, s, n, "{'op':'next','cursor':9223372036854775807}", "{'ok':false,'error':'none'}", -1)
			if got, want := fmt.Sprint(s.End().Pins[2+n*4:6+n*4]), "[43 84 43 43]"; got != want {
				t.Errorf("pins %s, not %s", got, want)
			}
		}
	}
}

// P24.4: a cursor's filter and fields, and a page that is no text: it is told so, and has gone by, as the model has it.
func TestPages(t *testing.T) {
	s := stocked(t, of(1), "a", "b", "e", "f", "g")
	mustCall(t, s, 0, "{'op':'open','in':'c','filter':{'n':{'$gte':2}},'fields':{'m':1},'batch':9}")
	wantCall(t, s, 0, "{'op':'next','cursor':1}", "{'ok':true,'docs':[{'id':'e','version':4,'value':{}},{'id':'g','version':6,'value':{}},{'id':'f','version':5,'value':{}}],'done':true}", -1)
	big := strings.Repeat("x", 16000)
	for _, id := range []string{"a", "b", "e", "f", "g"} {
		mustCall(t, s, 0, "{'op':'replace','in':'c','id':'"+id+"','value':{'t':'"+big+"'}}")
	}
	mustCall(t, s, 0, "{'op':'open','in':'c','batch':5}", "{'op':'open','in':'c','batch':3}")
	wantCall(t, s, 0, "{'op':'next','cursor':2}", "{'ok':false,'error':'long'}", -1)
	wantCall(t, s, 0, "{'op':'next','cursor':2}", "{'ok':true,'docs':[],'done':true}", -1)
	if reply, _ := s.Call(nil, 0, quoted("{'op':'next','cursor':3}")); len(reply) < 48000 {
		t.Errorf("%.100s", reply)
	}
}
