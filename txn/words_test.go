package txn_test

import (
	"slices"
	"testing"

	"docket/api"
	"docket/jsonval"
	"docket/request"
	"docket/shape"
	"docket/txn"
	"docket/update"
)

// The chapter's words, one behind the other, written as they stand.

// staleBy is what "ErrStale, if r.Version is not 0 and not the document's" says.
func staleBy(r api.Request, x api.Item) bool { return r.Version != 0 && r.Version != x.Version }

// oneByWords: P20.1.
func oneByWords(r api.Request, was api.Item, there bool, stamp int64) api.Outcome {
	switch r.Op {
	case api.OpInsert:
		if there {
			return failed(isThere)
		}
		return made(api.Item{Key: r.Id, Version: stamp, Value: r.Value})
	case api.OpReplace:
		if !there {
			return failed(isNone)
		}
		if staleBy(r, was) {
			return failed(isStale)
		}
		return newByWords(was, r.Value, stamp)
	case api.OpUpdate, api.OpModify:
		return updateByWords(r, was, there, stamp)
	case api.OpDelete:
		if !there {
			return failed(isNone)
		}
		if staleBy(r, was) {
			return failed(isStale)
		}
		return gone(was)
	}
	return failed(isArg)
}

func newByWords(was api.Item, v api.Value, stamp int64) api.Outcome {
	if jsonval.Equal(v, was.Value) {
		return kept(was)
	}
	return became(was, api.Item{Key: was.Key, Version: stamp, Value: v})
}

func updateByWords(r api.Request, was api.Item, there bool, stamp int64) api.Outcome {
	u, e, _ := update.Parse(r.Ops, r.Filters)
	if e != isOK {
		return failed(e)
	}
	old := was.Value
	if !there {
		if !r.Upsert {
			return failed(isNone)
		}
		if r.Version != 0 {
			return failed(isStale)
		}
		old = val(`{}`)
	} else if staleBy(r, was) {
		return failed(isStale)
	}
	v, _, e, _ := u.Apply(old, !there)
	if e != isOK {
		return failed(e)
	}
	if jsonval.Depth(v) > maxFit {
		return failed(isDepth)
	}
	if !there {
		return made(api.Item{Key: r.Id, Version: stamp, Value: v})
	}
	return newByWords(was, v, stamp)
}

// toldByWords: P20.2.
func toldByWords(r api.Request, o api.Outcome, stamp int64) ([]string, []api.Value) {
	if o.E != isOK {
		return nil, nil
	}
	version, changed, fresh := jsonval.Of(o.Now.Version), jsonval.Flag(o.Changed), jsonval.Flag(o.Fresh)
	switch r.Op {
	case api.OpInsert:
		return []string{"id", "version"}, []api.Value{jsonval.Word(r.Id), version}
	case api.OpReplace:
		return []string{"version", "changed"}, []api.Value{version, changed}
	case api.OpUpdate:
		return []string{"version", "changed", "fresh"}, []api.Value{version, changed, fresh}
	case api.OpModify:
		v := val("null")
		if r.New && o.Is {
			v = o.Now.Value
		}
		if !r.New && o.There {
			v = o.Was.Value
		}
		if f, e := shape.ParseFields(r.Fields); e == isOK {
			v = f.Apply(v)
		}
		return []string{"version", "changed", "fresh", "value"}, []api.Value{version, changed, fresh, v}
	case api.OpDelete:
		return []string{"version"}, []api.Value{jsonval.Of(stamp)}
	}
	return nil, nil
}

// kindByWords: P20.3.
func kindByWords(o api.Outcome) int {
	if o.Changed && !o.There {
		return inserted
	}
	if o.Changed && !o.Is {
		return deleted
	}
	if o.Changed {
		return updated
	}
	return 0
}

// keysByWords: P20.4: those keys of which none ahead is the same, each at its place.
func keysByWords(steps []api.Request) []string {
	var keys []string
	for _, r := range steps {
		key := r.In + "/" + r.Id
		if slices.Contains(keys, key) {
			continue
		}
		at := 0
		for at < len(keys) && keys[at] < key {
			at++
		}
		keys = slices.Insert(keys, at, key)
	}
	return keys
}

// allByWords: P20.5.
func allByWords(s txn.Store, steps []api.Request, mode int, stamp int64) ([]api.Value, []api.Change, api.Errno, int) {
	if mode < modeAll || mode > modeEach {
		return nil, nil, isArg, -1
	}
	var results []api.Value
	var changes []api.Change
	for i, r := range steps {
		o, e := stepByWords(s, r, stamp)
		if e != isOK {
			if mode == modeAll {
				return nil, nil, e, i
			}
			results = append(results, jsonval.Named([]string{"ok", "error"}, jsonval.Flag(false), jsonval.Word(request.Name(e))))
			if mode == modeStop {
				return results, changes, isOK, -1
			}
			continue
		}
		names, items := toldByWords(r, o, stamp)
		results = append(results, jsonval.Named(slices.Insert(names, 0, "ok"), slices.Insert(items, 0, jsonval.Flag(true))...))
		if kindByWords(o) != 0 {
			changes = append(changes, api.Change{Stamp: stamp, In: r.In, Id: r.Id, Kind: kindByWords(o)})
		}
	}
	return results, changes, isOK, -1
}

func stepByWords(s txn.Store, r api.Request, stamp int64) (api.Outcome, api.Errno) {
	x, there, e := s.Item(r.In, r.Id)
	if e != isOK {
		return api.Outcome{}, e
	}
	o := oneByWords(r, x, there, stamp)
	if o.E != isOK {
		return o, o.E
	}
	var was, now []api.Item
	if o.There {
		was = append(was, o.Was)
	}
	if o.Is {
		now = append(now, o.Now)
	}
	return o, s.Commit(r.In, was, now)
}

// P20.1, P20.2, P20.3 on much that is ordinary, and much that is not.
func TestOneByWords(t *testing.T) {
	d := newDice(201)
	errors, kinds := map[api.Errno]int{}, map[int]int{}
	for range 60000 {
		r := d.request()
		was, there := d.found()
		stamp := pick[int64](d, 9, 10, 1, maxStamp)
		want, got := oneByWords(r, was, there, stamp), txn.One(r, was, there, stamp)
		if tellOutcome(got) != tellOutcome(want) {
			t.Fatalf("%+v of %s %v:\n%s, not\n%s", r, tellItem(was), there, tellOutcome(got), tellOutcome(want))
		}
		errors[got.E]++
		kinds[txn.Kind(got)]++
		if d.one(4) { // an outcome of another request is told as well
			r = d.request()
		}
		if names, items := txn.Told(r, got, stamp); tellTold(names, items) != tellTold(toldByWords(r, want, stamp)) {
			t.Fatalf("%+v of %s: %s, not %s", r, tellOutcome(got), tellTold(names, items), tellTold(toldByWords(r, want, stamp)))
		}
		if txn.Kind(got) != kindByWords(want) {
			t.Fatalf("%s: %d", tellOutcome(got), txn.Kind(got))
		}
	}
	for _, e := range []api.Errno{isOK, isThere, isNone, isStale, isArg, isDepth, api.ErrUpdate, api.ErrVerb, api.ErrGive, api.ErrClash, api.ErrFilters, api.ErrKind, api.ErrCross, api.ErrWhere} {
		if errors[e] < 50 {
			t.Errorf("%d: only %d outcomes", e, errors[e])
		}
	}
	for _, kind := range []int{0, inserted, updated, deleted} {
		if kinds[kind] < 1000 {
			t.Errorf("kind %d: only %d outcomes", kind, kinds[kind])
		}
	}
}

// P20.4
func TestKeysByWords(t *testing.T) {
	d := newDice(204)
	for range 5000 {
		steps := d.requests(12)
		if got, want := txn.Keys(steps), keysByWords(steps); !slices.Equal(got, want) {
			t.Fatalf("%q, not %q", got, want)
		}
	}
}

// P20.5, with what the store is asked for, in its order.
func TestAllByWords(t *testing.T) {
	d := newDice(205)
	told := map[string]int{}
	for range 20000 {
		b, steps, mode, stamp := d.book(), d.requests(8), pick(d, modeAll, modeStop, modeEach), pick[int64](d, 9, 10)
		if d.one(30) {
			mode = pick(d, -1, 3, 100)
		}
		if d.one(4) {
			b.wrong = nil
			steps = d.smooth(b)
		}
		other := b.copy()
		want := tellAll(allByWords(other, steps, mode, stamp))
		if got := play(b, steps, mode, stamp); got != want || !slices.Equal(b.asked, other.asked) || b.state() != other.state() {
			t.Fatalf("%+v, mode %d:\n%s, not\n%s\nasked %q,\nnot   %q", steps, mode, got, want, b.asked, other.asked)
		}
		if len(b.wrong) > 0 && len(b.asked) > 3 {
			told["with a wrong answer"]++
		}
		if len(steps) > 3 && len(b.asked) == 2*len(steps) {
			told["without an error"]++
		}
	}
	if told["with a wrong answer"] < 1000 || told["without an error"] < 300 {
		t.Error(told)
	}
}
