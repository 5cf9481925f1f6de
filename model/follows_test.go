package model_test

import (
	"fmt"
	"maps"
	"slices"
	"strings"
	"sync"
	"testing"

	"docket/api"
	"docket/jsonval"
	"docket/model"
	"docket/request"
	"docket/schema"
)

// runs plays made-up requests from states that are not empty, and hands on each state, the request, the next state and the reply.
func runs(t *testing.T, seeds int64, steps int, raw func(d dice, below int64) string, each func(s *model.State, raw string, next *model.State, reply string)) {
	t.Helper()
	for seed := range seeds {
		d := newDice(7000 + seed)
		s := empty(t, pick(d, 3, 20, maxKeep))
		for _, raw := range d.start() {
			s = stepped(t, s, raw)
		}
		for range steps {
			text := raw(d, s.Stamp())
			next, reply := s.Step(d.Intn(2), text)
			each(s, text, next, reply)
			s = next
		}
	}
}

func (d dice) quotedRaw(below int64) string { return d.raw(below) }

// readsTold are the replies to some reads, but for their stamps.
func readsTold(s *model.State) string {
	var all []string
	for _, raw := range []string{"{'op':'stat'}", "{'op':'scan','in':'c'}", "{'op':'scan','in':'c-1'}", "{'op':'scan','in':'d'}", "{'op':'changes','after':0}", "{'op':'changes','after':" + num(max(0, s.Stamp()-3)) + "}"} {
		_, reply := s.Step(0, quoted(raw))
		all = append(all, strings.Replace(reply, `"stamp":`+num(s.Stamp())+",", "", 1))
	}
	return strings.Join(all, "\n")
}

// changesTold is the log as far as it goes back.
func changesTold(s *model.State) string {
	for after := range s.Stamp() + 1 {
		if _, reply := s.Step(0, fmt.Sprintf(`{"op":"changes","after":%d}`, after)); !strings.HasPrefix(reply, `{"ok":false`) {
			return strings.Replace(reply, `"stamp":`+num(s.Stamp())+",", "", 1)
		}
	}
	return "none"
}

// P23.10: a read changes nothing; a changing request makes the stamp one more, refused or not.
func TestStampsByRequests(t *testing.T) {
	read, changed, refused := 0, 0, 0
	runs(t, 60, 80, dice.quotedRaw, func(s *model.State, raw string, next *model.State, reply string) {
		r, e, _ := request.Parse(raw)
		switch {
		case e == isOK && request.Stamped(r.Op):
			changed++
			if strings.HasPrefix(reply, `{"ok":false`) {
				refused++
			}
			if next.Stamp() != s.Stamp()+1 {
				t.Fatalf("%s: from %d to %d", raw, s.Stamp(), next.Stamp())
			}
		case e != isOK || !slices.Contains([]int{api.OpOpen, api.OpNext, api.OpClose}, r.Op):
			if read++; next != s {
				t.Fatalf("%s: another state", raw)
			}
		case tellState(next) != tellState(s) || readsTold(next) != readsTold(s):
			t.Fatalf("%s: something has changed", raw)
		}
	})
	if read < 500 || changed-refused < 500 || refused < 500 {
		t.Error("little was said", read, changed, refused)
	}
}

// P23.11: with an error no document, no collection, no log changes.
func TestErrorsChangeNothing(t *testing.T) {
	refused := 0
	runs(t, 60, 80, func(d dice, below int64) string { return quoted(d.change(below)) }, func(s *model.State, raw string, next *model.State, reply string) {
		if strings.HasPrefix(reply, `{"ok":true`) {
			return
		}
		refused++
		if tellItems(next.Docs()) != tellItems(s.Docs()) || tellColls(next.Colls()) != tellColls(s.Colls()) || changesTold(next) != changesTold(s) {
			t.Fatalf("%s: %s:\n%s\nhas become\n%s", raw, reply, tellState(s), tellState(next))
		}
	})
	if refused < 500 {
		t.Error("little was said", refused)
	}
}

// P23.12: with indexes and without, reads tell the same, and changes make the same. Where the one makes an index the other skips.
func TestIndexesHaveNoPart(t *testing.T) {
	by, same := 0, 0
	for seed := range int64(160) {
		d := newDice(8000 + seed)
		bare := stepped(t, empty(t, 9), "{'op':'create','in':'c'}", "{'op':'create','in':'c-1'}", "{'op':'create','in':'d','most':3}")
		with := stepped(t, bare, "{'op':'index','in':'c','name':'a','path':'n'}", "{'op':'index','in':'c-1','name':'b','path':'n'}", "{'op':'index','in':'d','name':'b','path':'t'}")
		bare = bare.Skip().Skip().Skip()
		for range 80 {
			raw := pick(d, d.read(bare.Stamp()), d.change(bare.Stamp()), d.page())
			r := ask(raw)
			if r.Op == api.OpIndex || r.Op == api.OpUnindex {
				with, _ = with.Step(0, strings.Replace(quoted(raw), `"unique":true`, `"unique":false`, 1))
				bare = bare.Skip()
				continue
			}
			var one, two string
			bare, one = bare.Step(0, quoted(raw))
			with, two = with.Step(0, quoted(raw))
			if r.Op == api.OpStat || r.Op == api.OpExplain {
				if strings.Contains(two, `"index":"`) {
					by++
				}
				continue
			}
			same++
			if one != two || bare.Stamp() != with.Stamp() || tellItems(bare.Docs()) != tellItems(with.Docs()) {
				t.Fatalf("%s:\n%s, with indexes\n%s", raw, one, two)
			}
		}
	}
	if by < 100 || same < 1000 {
		t.Error("little was said", by, same)
	}
}

// P23.12, its bound: of a collection with more documents than a pipe takes an index lets fewer into it.
func TestMoreThanMade(t *testing.T) {
	s := many(t, stepped(t, empty(t, 9), "{'op':'create','in':'c'}"), maxMade)
	raw, want := "{'op':'aggregate','in':'c','pipe':[{'$match':{'n':7}},{'$count':'c'}]}", "{'ok':true,'stamp':%d,'values':[{'c':1}]}"
	wantStep(t, s, 0, raw, fmt.Sprintf(want, s.Stamp()))
	s = stepped(t, s, "{'op':'insert','in':'c','id':'more','value':{}}")
	wantStep(t, s, 0, raw, "{'ok':false,'error':'much','at':0}")
	s = stepped(t, s, "{'op':'index','in':'c','name':'x','path':'n'}")
	wantStep(t, s, 0, raw, fmt.Sprintf(want, s.Stamp()))
	wantStep(t, s, 0, "{'op':'count','in':'c'}", fmt.Sprintf("{'ok':true,'stamp':%d,'count':4097}", s.Stamp()))
}

// ofColl are the documents of a collection.
func ofColl(s *model.State, in string) []api.Item {
	return slices.DeleteFunc(s.Docs(), func(x api.Item) bool { return !strings.HasPrefix(x.Key, in+"/") })
}

// P23.13: the catalog counts, and keeps what its collections ask for.
func TestCatalogCounts(t *testing.T) {
	ruled, unique := 0, 0
	runs(t, 60, 80, func(d dice, below int64) string { return quoted(d.change(below)) }, func(_ *model.State, raw string, next *model.State, _ string) {
		total := 0
		for _, k := range next.Colls() {
			l := ofColl(next, k.Name)
			total += len(l)
			if k.Count != len(l) || k.Count > k.Most || k.Top != (api.Ref{}) {
				t.Fatalf("%s: %s", raw, tellState(next))
			}
			if k.Schema.Kind != api.Null {
				rules, _ := schema.Parse(k.Schema)
				for _, x := range l {
					if ruled++; rules.Check(x.Value) != isOK {
						t.Fatalf("%s: %s", raw, tellState(next))
					}
				}
			}
			for _, s := range k.Specs {
				if s.Unique && len(l) > 1 {
					if unique++; !alone(s, l) {
						t.Fatalf("%s: %s", raw, tellState(next))
					}
				}
			}
		}
		if total != len(next.Docs()) {
			t.Fatalf("%s: %d documents of no collection", raw, len(next.Docs())-total)
		}
	})
	if ruled < 200 || unique < 200 {
		t.Error("little was said", ruled, unique)
	}
}

// logged are the changes that a state tells behind a stamp, or false.
func logged(s *model.State, after int64) ([]api.Change, bool) {
	_, reply := s.Step(0, fmt.Sprintf(`{"op":"changes","after":%d}`, after))
	v := val(reply)
	changes, there := jsonval.Has(v, "changes")
	var l []api.Change
	for _, x := range changes.Items {
		kind := slices.Index([]string{"", "insert", "update", "delete"}, x.Items[3].Text)
		l = append(l, api.Change{Stamp: x.Items[0].Int, In: x.Items[1].Text, Id: x.Items[2].Text, Kind: kind})
	}
	return l, there
}

// followed are the documents' versions by their keys, as whoever knew those of s at that stamp and is told the changes knows them.
func followed(t *testing.T, s *model.State, changes []api.Change) map[string]int64 {
	t.Helper()
	known := map[string]int64{}
	for _, x := range s.Docs() {
		known[x.Key] = x.Version
	}
	for _, x := range changes {
		key := x.In + "/" + x.Id
		if _, there := known[key]; there != (x.Kind != inserted) {
			t.Fatalf("%v: there: %v", x, there)
		}
		known[key] = x.Stamp
		if x.Kind == deleted {
			delete(known, key)
		}
	}
	return known
}

// P23.14: versions are the stamps of the last changes that were told; behind any stamp that the log still has it tells just what changed.
func TestVersions(t *testing.T) {
	told := 0
	for seed := range int64(60) {
		d := newDice(9000 + seed)
		s := empty(t, pick(d, 2, 10, 100))
		were := []*model.State{s}
		for range 100 {
			if s, _ = s.Step(0, quoted(d.change(s.Stamp()))); len(were) == 3 {
				for _, raw := range d.start() {
					s, _ = s.Step(0, quoted(raw))
					were = append(were, s)
				}
			}
			were = append(were, s)
		}
		slices.SortStableFunc(were, func(a, b *model.State) int { return int(a.Stamp() - b.Stamp()) })
		for _, now := range []*model.State{were[len(were)/2], s} {
			for _, was := range were[:int(now.Stamp())] {
				changes, there := logged(now, was.Stamp())
				if !there {
					continue
				}
				want := map[string]int64{}
				for _, x := range now.Docs() {
					want[x.Key] = x.Version
				}
				if told += len(changes); !maps.Equal(followed(t, was, changes), want) {
					t.Fatalf("from %s\nto %s:\n%v", tellState(was), tellState(now), changes)
				}
			}
		}
	}
	if told < 1000 {
		t.Error("little was said", told)
	}
}

// P23.15: two steps of one state, in any order, and beside one another.
func TestStepsOfOneState(t *testing.T) {
	for seed := range int64(20) {
		d := newDice(11000 + seed)
		s := empty(t, 9)
		for _, raw := range d.start() {
			s = stepped(t, s, raw)
		}
		for range 40 {
			s, _ = s.Step(0, d.raw(s.Stamp()))
		}
		var raws, want []string
		for range 30 {
			raw := d.raw(s.Stamp())
			next, reply := s.Step(0, raw)
			raws, want = append(raws, raw), append(want, reply+tellState(next)+readsTold(next))
		}
		before := tellState(s) + readsTold(s)
		got := make([]string, len(raws))
		var all sync.WaitGroup
		for i := range raws {
			all.Add(1)
			go func() {
				defer all.Done()
				next, reply := s.Step(0, raws[i])
				got[i] = reply + tellState(next) + readsTold(next)
			}()
		}
		all.Wait()
		for i := range slices.Backward(raws) {
			next, reply := s.Step(0, raws[i])
			if again := reply + tellState(next) + readsTold(next); again != want[i] || got[i] != want[i] {
				t.Fatalf("%s:\n%s, not\n%s", raws[i], again, want[i])
			}
		}
		if tellState(s)+readsTold(s) != before {
			t.Fatal("the state has changed")
		}
	}
}

// P23.15: the pages of one cursor, told of one state again and again, and of the states behind it.
func TestPagesOfOneState(t *testing.T) {
	s := many(t, stepped(t, empty(t, 9), "{'op':'create','in':'c'}"), 20)
	s = stepped(t, s, "{'op':'open','in':'c','batch':3}")
	behind := stepped(t, s, "{'op':'next','cursor':1}")
	_, one := pages(t, s, 0, 1)
	_, two := pages(t, s, 0, 1)
	_, rest := pages(t, behind, 0, 1)
	if !slices.Equal(one, two) || len(one) != 20 || !slices.Equal(one[3:], rest) {
		t.Errorf("%q, %q, %q", one, two, rest)
	}
}
