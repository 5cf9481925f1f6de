package txn_test

import (
	"slices"
	"strings"
	"testing"

	"docket/api"
	"docket/index"
	"docket/jsonval"
	"docket/prim"
	"docket/txn"
)

// P20.6: on the document and the request alone: not on what was asked ahead, and not on what the document's collection is.
func TestOneHangsOnNothingElse(t *testing.T) {
	d := newDice(206)
	for range 5000 {
		r := d.request()
		was, there := d.found()
		first := tellOutcome(txn.One(r, was, there, 9))
		for range 3 {
			x, is := d.found()
			txn.One(d.request(), x, is, int64(d.Intn(20)))
		}
		other := r
		other.In, other.New, other.Fields = "other", !r.New, val("7")
		for _, again := range []api.Request{r, other} {
			if got := tellOutcome(txn.One(again, was, there, 9)); got != first {
				t.Fatalf("%+v: %s, and then %s", r, first, got)
			}
		}
	}
}

// P20.6: what is not Changed is as it was; the Version of what is Changed is the stamp.
func TestChangedOrNot(t *testing.T) {
	d := newDice(207)
	seen := map[string]int{}
	for range 20000 {
		r := d.request()
		was, there := d.found()
		stamp := 100 + int64(d.Intn(5))
		o := txn.One(r, was, there, stamp)
		switch {
		case o.E != isOK:
			if tellOutcome(o) != tellOutcome(failed(o.E)) {
				t.Fatalf("%+v: %s", r, tellOutcome(o))
			}
		case !o.Changed:
			seen["not changed"]++
			if !o.There || !o.Is || o.Fresh || tellItem(o.Now) != tellItem(was) || tellItem(o.Was) != tellItem(was) {
				t.Fatalf("%+v of %s: %s", r, tellItem(was), tellOutcome(o))
			}
		case o.Is:
			seen["changed"]++
			if o.Now.Version != stamp || o.Fresh == o.There || o.There && jsonval.Equal(o.Now.Value, was.Value) {
				t.Fatalf("%+v of %s: %s", r, tellItem(was), tellOutcome(o))
			}
		default:
			seen["gone"]++
			if r.Op != api.OpDelete || !o.There || tellItem(o.Now) != tellItem(none) || o.Fresh {
				t.Fatalf("%+v of %s: %s", r, tellItem(was), tellOutcome(o))
			}
		}
		if o.There != there && o.E == isOK {
			t.Fatalf("%+v of %s %v: %s", r, tellItem(was), there, tellOutcome(o))
		}
	}
	for _, what := range []string{"not changed", "changed", "gone"} {
		if seen[what] < 500 {
			t.Errorf("%s: only %d", what, seen[what])
		}
	}
}

// P20.6: another stamp makes another Version, and nothing else other.
func TestOtherStamp(t *testing.T) {
	d := newDice(208)
	for range 5000 {
		r := d.request()
		was, there := d.found()
		one, two := txn.One(r, was, there, 100), txn.One(r, was, there, 200)
		if one.Changed && one.Is {
			one.Now.Version += 100
		}
		if tellOutcome(one) != tellOutcome(two) {
			t.Fatalf("%+v: %s, %s", r, tellOutcome(one), tellOutcome(two))
		}
	}
}

// P20.7: All of one step is One of it, and Commit.
func TestAllOfOneStep(t *testing.T) {
	d := newDice(209)
	for range 10000 {
		b, r := d.book(), d.request()
		b.wrong, r.In = nil, pick(d, "c", "d")
		was, there := b.items[r.In+"/"+r.Id]
		o := txn.One(r, was, there, 9)
		other := b.copy()
		if o.E == isOK {
			var from, to []api.Item
			if o.There {
				from = []api.Item{o.Was}
			}
			if o.Is {
				to = []api.Item{o.Now}
			}
			other.Commit(r.In, from, to)
		}
		results, changes, e, at := txn.All(b, []api.Request{r}, modeAll, 9)
		if o.E != isOK {
			if len(results) != 0 || len(changes) != 0 || e != o.E || at != 0 || b.state() != other.state() {
				t.Fatalf("%+v: %s", r, tellAll(results, changes, e, at))
			}
			continue
		}
		names, items := txn.Told(r, o, 9)
		want := jsonval.Named(append([]string{"ok"}, names...), append([]api.Value{jsonval.Flag(true)}, items...)...)
		if len(results) != 1 || !jsonval.Equal(results[0], want) || e != isOK || at != -1 || b.state() != other.state() {
			t.Fatalf("%+v: %s", r, tellAll(results, changes, e, at))
		}
		if kind := txn.Kind(o); (kind == 0) != (len(changes) == 0) || kind != 0 && changes[0] != (api.Change{Stamp: 9, In: r.In, Id: r.Id, Kind: kind}) {
			t.Fatalf("%+v: %s", r, tellAll(results, changes, e, at))
		}
	}
}

// smooth is a list of steps on a book, of which none has an error: those of a longer one that have none.
func (d dice) smooth(b *book) []api.Request {
	b = b.copy()
	var steps []api.Request
	for _, r := range d.requests(14) {
		if _, _, e, _ := txn.All(b, []api.Request{r}, modeAll, 9); e == isOK {
			steps = append(steps, r)
		}
	}
	return steps
}

// P20.7: All of a list is All of its beginning and then of its rest, wherever it is cut.
func TestAllOfParts(t *testing.T) {
	d := newDice(210)
	cuts := 0
	for range 2500 {
		b := d.book()
		b.wrong = nil
		steps := d.smooth(b)
		for _, mode := range []int{modeStop, modeEach} {
			whole := b.copy()
			results, changes, _, _ := txn.All(whole, steps, mode, 9)
			if len(results) != len(steps) {
				t.Fatal(tellValues(results))
			}
			for cut := range len(steps) + 1 {
				part := b.copy()
				r1, c1, e1, at1 := txn.All(part, steps[:cut], mode, 9)
				r2, c2, e2, at2 := txn.All(part, steps[cut:], mode, 9)
				if tellValues(append(r1, r2...)) != tellValues(results) || tellChanges(append(c1, c2...)) != tellChanges(changes) || part.state() != whole.state() || !slices.Equal(part.asked, whole.asked) || e1 != isOK || e2 != isOK || at1 != -1 || at2 != -1 {
					t.Fatalf("%+v, cut at %d", steps, cut)
				}
				cuts++
			}
		}
	}
	if cuts < 10000 {
		t.Errorf("%d cuts: that says little", cuts)
	}
}

// P20.8: where there is no error all modes answer the same; with one the mode all answers none.
func TestModesAlike(t *testing.T) {
	d := newDice(211)
	smooth, refused := 0, 0
	for range 5000 {
		b := d.book()
		steps := d.requests(6)
		if d.one(2) {
			b.wrong = nil
			steps = d.smooth(b)
		}
		all, stop, each := b.copy(), b.copy(), b.copy()
		r, c, e, at := txn.All(all, steps, modeAll, 9)
		one, two := play(stop, steps, modeStop, 9), play(each, steps, modeEach, 9)
		if e == isOK {
			smooth++
			want := tellAll(r, c, isOK, -1)
			if at != -1 || one != want || two != want || all.state() != stop.state() || all.state() != each.state() {
				t.Fatalf("%+v: %s, %s, %s", steps, want, one, two)
			}
			continue
		}
		refused++
		if len(r) != 0 || len(c) != 0 || at < 0 || at >= len(steps) || !slices.Equal(all.asked, stop.asked) {
			t.Fatalf("%+v: %s", steps, tellAll(r, c, e, at))
		}
		if results, _, _, _ := txn.All(b.copy(), steps, modeStop, 9); len(results) != at+1 {
			t.Fatalf("%+v: %d, %s", steps, at, tellValues(results))
		}
	}
	if smooth < 1000 || refused < 1000 {
		t.Error(smooth, refused)
	}
}

// P20.9: the second time.
func TestSecondTime(t *testing.T) {
	d := newDice(212)
	for range 2000 {
		b := newBook()
		insert, remove := d.request(), d.request()
		insert.Op, insert.In, remove.Op, remove.In, remove.Id, remove.Version = api.OpInsert, "c", api.OpDelete, "c", insert.Id, 0
		steps := []api.Request{insert, insert, remove, remove, insert, insert}
		results, changes, _, _ := txn.All(b, steps, modeEach, 9)
		var names []string
		for _, x := range results {
			name, _ := jsonval.Has(x, "error")
			names = append(names, name.Text)
		}
		if strings.Join(names, ",") != ",there,,none,,there" || len(changes) != 3 {
			t.Fatalf("%q %s", names, tellChanges(changes))
		}
	}
}

// P20.9: a replace and an update with the Version that the one ahead of it told are OK; with any other they are stale.
func TestVersionThatIsTold(t *testing.T) {
	d := newDice(213)
	b := newBook()
	version := toldVersion(t, b, ask(insertA), 1)
	for stamp := int64(2); stamp < 2000; stamp++ {
		r := api.Request{Op: pick(d, api.OpReplace, api.OpUpdate, api.OpModify), In: "c", Id: "a", Value: d.value(), Ops: val(pick(d, `{"$set":{"n":1}}`, `{"$set":{"n":2}}`, `{"$set":{"t":"x"}}`)), Version: version}
		for _, wrong := range []int64{version - 1, version + 1, stamp} {
			other := r
			if other.Version = wrong; wrong != 0 && wrong != version {
				if got := play(b, []api.Request{other}, modeAll, stamp); got != ` |  | 167 0` {
					t.Fatalf("version %d, not %d: %s", wrong, version, got)
				}
			}
		}
		version = toldVersion(t, b, r, stamp)
	}
	r := ask(deleteA)
	r.Version = version
	toldVersion(t, b, r, 2000)
	wantState(t, b, "")
}

func toldVersion(t *testing.T, b *book, r api.Request, stamp int64) int64 {
	t.Helper()
	results, _, e, _ := txn.All(b, []api.Request{r}, modeAll, stamp)
	if e != isOK {
		t.Fatalf("%+v: %d", r, e)
	}
	version, there := jsonval.Has(results[0], "version")
	if x, is := b.items["c/a"]; !there || is && x.Version != version.Int {
		t.Fatalf("%s, %s", tell(results[0]), tellItem(x))
	}
	return version.Int
}

// P20.9 within one All: what one step makes has the stamp as its version, so the next one may name it.
func TestVersionWithinAll(t *testing.T) {
	steps := asks(insertA, `{'op':'replace','in':'c','id':'a','value':{'n':1},'version':9}`, `{'op':'update','in':'c','id':'a','ops':{'$inc':{'n':1}},'version':9}`, `{'op':'delete','in':'c','id':'a','version':9}`)
	for _, mode := range []int{modeAll, modeStop, modeEach} {
		b := newBook()
		wantAll(t, b, steps, mode, `{"ok":true,"id":"a","version":9} {"ok":true,"version":9,"changed":true} {"ok":true,"version":9,"changed":true,"fresh":false} {"ok":true,"version":9} | 9c/a1 9c/a2 9c/a2 9c/a3 | 0 -1`)
	}
	steps[2].Version = 8
	wantAll(t, newBook(), steps, modeAll, ` |  | 167 2`)
}

// shelf is a store of one collection with a unique index, which has a say in what is committed.
type shelf struct {
	items map[string]api.Item
	tags  *index.Index
}

func (s *shelf) Item(in, id string) (api.Item, bool, api.Errno) {
	x, there := s.items[id]
	return x, there, isOK
}

func (s *shelf) Commit(in string, was, now []api.Item) api.Errno {
	next, _, e := s.tags.Change(was, now)
	if e != isOK {
		return e
	}
	s.tags = next
	for _, x := range was {
		delete(s.items, x.Key)
	}
	for _, x := range now {
		s.items[x.Key] = x
	}
	return isOK
}

// An index goes along with the steps: what one gives up the next one may have.
func TestUniqueAlong(t *testing.T) {
	tags, e := index.New(api.Spec{Name: "tags", Path: "tag", Unique: true})
	if e != isOK {
		t.Fatal(e)
	}
	s := &shelf{map[string]api.Item{}, tags}
	results, changes, e, at := txn.All(s, asks(
		`{'op':'insert','in':'c','id':'a','value':{'tag':1}}`,
		`{'op':'insert','in':'c','id':'b','value':{'tag':1}}`,
		`{'op':'update','in':'c','id':'a','ops':{'$set':{'tag':2}}}`,
		`{'op':'update','in':'c','id':'a','ops':{'$set':{'tag':2}}}`,
		`{'op':'insert','in':'c','id':'b','value':{'tag':1}}`,
		`{'op':'replace','in':'c','id':'a','value':{'tag':1}}`,
		`{'op':'delete','in':'c','id':'b'}`,
		`{'op':'replace','in':'c','id':'a','value':{'tag':1}}`,
	), modeEach, 5)
	want := `{"ok":true,"id":"a","version":5} {"ok":false,"error":"unique"} {"ok":true,"version":5,"changed":true,"fresh":false} {"ok":true,"version":5,"changed":false,"fresh":false} {"ok":true,"id":"b","version":5} {"ok":false,"error":"unique"} {"ok":true,"version":5} {"ok":true,"version":5,"changed":true} | 5c/a1 5c/a2 5c/b1 5c/b3 5c/a2 | 0 -1`
	if got := tellAll(results, changes, e, at); got != want {
		t.Errorf("%s, not\n%s", got, want)
	}
	if got := s.tags.Ids(api.NeedEq, val("1")); !slices.Equal(got, []string{"a"}) {
		t.Errorf("%q", got)
	}
}

// P20.6: many at once, with the same values in hand, are told the same.
func TestBeside(t *testing.T) {
	d := newDice(214)
	for range 20 {
		steps, b := d.requests(20), d.book()
		was, there := d.found()
		answers := make([]string, 8)
		var bodies []func()
		for i := range answers {
			bodies = append(bodies, func() {
				for _, r := range steps {
					o := txn.One(r, was, there, 9)
					answers[i] += tellOutcome(o) + tellTold(txn.Told(r, o, 9))
				}
				answers[i] += strings.Join(txn.Keys(steps), " ") + play(b.copy(), steps, modeEach, 9)
			})
		}
		prim.Beside(bodies)
		for _, answer := range answers {
			if answer != answers[0] {
				t.Fatalf("%s, not %s", answer, answers[0])
			}
		}
	}
}
