package model_test

import (
	"fmt"
	"slices"
	"strings"
	"testing"

	"docket/api"
	"docket/catalog"
	"docket/ident"
	"docket/model"
	"docket/request"
	"docket/txn"
	"docket/watch"
)

// both is a state, and what the chapter's words make of the same requests.
type both struct {
	s *model.State
	p plain
}

// took counts how often the replies of an operation were of a kind, so that a test that says little is found out.
type took map[string]int

func (c took) note(raw, reply string) {
	op := "none"
	if r, e, _ := request.Parse(raw); e == isOK {
		op = fmt.Sprint(r.Op)
	}
	word := "yes"
	if _, rest, bad := strings.Cut(reply, `"ok":false,"error":"`); bad && strings.HasPrefix(reply, `{"ok":false`) {
		word, _, _ = strings.Cut(rest, `"`)
	}
	c[op+" "+word]++
}

// P23.7 to P23.9, and with them all others: Step, Skip and what states tell, held against the words, on trees of states that are looked at again at the end.
func TestStepByTheWords(t *testing.T) {
	count := took{}
	for seed := range int64(400) {
		d := newDice(seed)
		keep := pick(d, 1, 3, 8, 100)
		l := []both{{empty(t, keep), newPlain(keep)}}
		if !d.one(4) {
			for _, raw := range d.start() {
				l[0].s = stepped(t, l[0].s, raw)
				l[0].p, _ = l[0].p.step(0, quoted(raw))
			}
		}
		for range 150 {
			from := l[len(l)-1]
			if d.one(12) {
				from = pick(d, l...)
			}
			client, raw := pick(d, 0, 0, 0, 1, 15, -1), d.raw(from.p.stamp)
			next, reply := from.s.Step(client, raw)
			p, want := from.p.step(client, raw)
			if d.one(40) {
				next, p = from.s.Skip(), from.p.copied()
				p.stamp++
				reply, want = "", ""
			}
			count.note(raw, reply)
			if reply != want || tellState(next) != p.tell() {
				t.Fatalf("%d: %s:\n%s\n%s\nnot\n%s\n%s", seed, raw, reply, tellState(next), want, p.tell())
			}
			l = append(l, both{next, p})
		}
		for i, x := range l {
			if got := tellState(x.s); got != x.p.tell() {
				t.Fatalf("%d: the state %d has become\n%s, not\n%s", seed, i, got, x.p.tell())
			}
			for _, raw := range []string{quoted("{'op':'changes','after':" + num(x.p.horizon()) + "}"), d.raw(x.p.stamp)} {
				_, reply := x.s.Step(0, raw)
				if _, want := x.p.step(0, raw); reply != want {
					t.Fatalf("%d: the state %d at the end: %s:\n%s, not\n%s", seed, i, raw, reply, want)
				}
			}
		}
	}
	saysEnough(t, count)
}

// saysEnough holds what was met against what the chapter's errors are.
func saysEnough(t *testing.T, count took) {
	t.Helper()
	for _, key := range []string{
		"none op", "none missing", "none operator", "1 yes", "1 none", "1 coll", "2 yes", "2 there", "2 coll", "2 full", "2 unique", "2 schema", "3 yes", "3 none", "3 stale", "3 unique", "4 yes", "4 none", "4 stale", "4 kind", "4 unique",
		"5 yes", "5 none", "6 yes", "6 none", "6 stale", "7 yes", "7 coll", "8 yes", "8 coll", "9 yes", "9 coll", "10 yes", "10 coll", "10 eval", "11 yes", "11 coll", "12 yes", "12 horizon", "13 yes", "13 there", "13 none", "13 coll", "13 unique",
		"14 yes", "14 coll", "14 full", "15 yes", "15 none", "16 yes", "16 none", "17 yes", "17 there", "17 rule", "18 yes", "18 notempty", "18 coll", "19 yes", "19 there", "19 coll", "19 unique", "20 yes", "20 none", "20 coll", "21 yes",
	} {
		if count[key] < 3 {
			t.Errorf("%q was met only %d times", key, count[key])
		}
	}
}

// catalogOf is a catalog that came to what p has.
func (p plain) catalogOf(t *testing.T, d dice) *catalog.Catalog {
	t.Helper()
	c := catalog.New()
	for _, name := range p.names() {
		k := p.colls[name]
		made, e := c.Create(name, int64(k.most), k.rules)
		if e != isOK {
			t.Fatal(e)
		}
		ahead := d.Intn(len(k.specs) + 1)
		for _, s := range k.specs[:ahead] {
			if made, e = made.Index(name, s, nil); e != isOK {
				t.Fatal(e)
			}
		}
		if made, e = made.Commit(name, nil, p.in(name)); e != isOK {
			t.Fatal(e)
		}
		for _, s := range k.specs[ahead:] {
			if made, e = made.Index(name, s, p.in(name)); e != isOK {
				t.Fatal(e)
			}
		}
		c = made
	}
	return c
}

func (p plain) logOf(t *testing.T) *watch.Log {
	t.Helper()
	l, e := watch.New(p.keep)
	if e != isOK {
		t.Fatal(e)
	}
	for i := 0; i < len(p.log); {
		end := i
		for end < len(p.log) && p.log[end].Stamp == p.log[i].Stamp {
			end++
		}
		l = l.With(p.log[i].Stamp, p.log[i:end]...)
		i = end
	}
	return l
}

// touched are the documents that Apply is handed.
func (p plain) touched(r api.Request) []api.Item {
	if r.Op == api.OpIndex {
		return p.in(r.In)
	}
	return slices.DeleteFunc(p.keyed(), func(x api.Item) bool { return !slices.Contains(plainKeys(r), x.Key) })
}

func plainKeys(r api.Request) []string {
	switch r.Op {
	case api.OpTxn:
		return txn.Keys(r.Steps)
	case api.OpInsert, api.OpReplace, api.OpUpdate, api.OpModify, api.OpDelete:
		if r.Id != "" {
			return []string{r.In + "/" + r.Id}
		}
	}
	return nil
}

// P23.1 to P23.6: what is needed, told and made at a root, held against the words, at roots that states came to, whose catalogs and logs came to be by other ways.
func TestPartsByTheWords(t *testing.T) {
	edits, met, all := 0, 0, 0
	for seed := range int64(600) {
		d := newDice(1000 + seed)
		p := newPlain(pick(d, 1, 4, 100))
		for _, raw := range d.start() {
			p, _ = p.step(0, quoted(raw))
		}
		for range d.Intn(60) {
			p, _ = p.step(0, quoted(d.change(p.stamp)))
		}
		c, log := p.catalogOf(t, d), p.logOf(t)
		for range 40 {
			raw := d.raw(p.stamp)
			r, e, _ := request.Parse(raw)
			if e != isOK {
				continue
			}
			before := tellCatalog(c)
			ids, every := model.Wanted(c, r)
			wantIds, wantEvery := p.wanted(r)
			if !slices.Equal(ids, wantIds) || every != wantEvery {
				t.Fatalf("%s: wanted %q, %v, not %q, %v", raw, ids, every, wantIds, wantEvery)
			}
			if reply := model.Read(c, r, p.stamp, p.wantedItems(r), log); reply != p.read(r) {
				t.Fatalf("%s:\n%s, not\n%s", raw, reply, p.read(r))
			}
			if len(ids) > 0 && r.Op != api.OpGet {
				met++
			}
			if every {
				all++
			}
			client := d.Intn(3)
			named := model.Named(r, client, p.made[client])
			next, reply := p.change(client, r)
			if !request.Stamped(r.Op) {
				next, reply = p, no(isArg, -1)
			}
			if keys := model.Keys(named); !slices.Equal(keys, plainKeys(named)) {
				t.Fatalf("%s: keys %q", raw, keys)
			}
			want := model.Effect{Reply: reply}
			if !strings.HasPrefix(reply, `{"ok":false`) {
				want = model.Effect{Cat: next.catalogOf(t, d), Edits: p.edits(next), Changes: next.log[len(p.log):], Reply: reply}
			}
			got := model.Apply(c, named, p.touched(named), p.stamp+1)
			if tellEffect(got) != tellEffect(want) {
				t.Fatalf("%s of\n%s:\n%s\nnot\n%s", raw, p.tell(), tellEffect(got), tellEffect(want))
			}
			if len(got.Edits) > 1 {
				edits++
			}
			if tellCatalog(c) != before {
				t.Fatalf("%s: the catalog has changed", raw)
			}
		}
	}
	if edits < 100 || met < 100 || all < 500 {
		t.Errorf("little was said: %d with several collections' edits, %d by an index, %d by all", edits, met, all)
	}
}

// P23.1: Named held against the words.
func TestNamedByTheWords(t *testing.T) {
	d := newDice(5)
	for range 2000 {
		r := ask(d.change(9))
		client, made := d.Intn(40)-5, pick(d, d.Int63n(50), -1, maxStamp, -2)
		want := r
		if r.Op == api.OpInsert && r.Id == "" {
			want.Id, _ = ident.NewMaker(uint64(client), uint64(made)).Next()
			if (want.Id == "") != (made == -1) {
				t.Fatal(want.Id, made)
			}
		}
		got, _ := request.Print(model.Named(r, client, made))
		if text, _ := request.Print(want); got != text {
			t.Fatalf("%s, not %s", got, text)
		}
	}
}
