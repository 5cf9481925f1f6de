package filter_test

import (
	"slices"
	"strings"
	"sync"
	"testing"

	"docket/api"
	"docket/dotpath"
	"docket/filter"
	"docket/jsonval"
)

// rounds hands queries that Parse takes, with documents, to check.
func rounds(t *testing.T, seed int64, check func(d dice, q, document api.Value, f *filter.Filter)) {
	t.Helper()
	d, n := newDice(seed), 0
	for range 8000 {
		q := d.query(2)
		f, e := filter.Parse(q)
		if e != api.OK {
			continue
		}
		for range 3 {
			n++
			check(d, q, d.document(4), f)
		}
	}
	if n < 20000 {
		t.Error("few rounds:", n)
	}
}

// P4.5: the opposites.
func TestOpposites(t *testing.T) {
	d := newDice(45)
	for range 5000 {
		path, document := d.path(), d.document(4)
		for operator, other := range map[string]string{"$eq": "$ne", "$in": "$nin"} {
			x := d.operand(operator, 1)
			f, g := made(t, object(path, object(operator, x))), made(t, object(path, object(other, x)))
			if f.Match(document) == g.Match(document) {
				t.Fatalf("%s and %s of %s at %s of %s", operator, other, full(x), path, full(document))
			}
		}
		test := d.test(1)
		if made(t, object(path, test)).Match(document) == made(t, object(path, object("$not", test))).Match(document) {
			t.Fatalf("%s and its $not at %s of %s", full(test), path, full(document))
		}
	}
	rounds(t, 46, func(d dice, q, document api.Value, f *filter.Filter) {
		l := jsonval.Listed(q, d.query(0))
		or, e := filter.Parse(object("$or", l))
		if e != api.OK {
			return
		}
		if nor := made(t, object("$nor", l)); or.Match(document) == nor.Match(document) {
			t.Fatalf("$or and $nor of %s of %s", full(l), full(document))
		}
	})
}

// P4.5: one query, alone and within $and and $or; and the order of clauses.
func TestAlike(t *testing.T) {
	rounds(t, 47, func(d dice, q, document api.Value, f *filter.Filter) {
		turned := odd(api.Object, slices.Clone(q.Names), slices.Clone(q.Items)...)
		d.Shuffle(len(turned.Names), func(i, j int) {
			turned.Names[i], turned.Names[j] = turned.Names[j], turned.Names[i]
			turned.Items[i], turned.Items[j] = turned.Items[j], turned.Items[i]
		})
		for _, other := range []api.Value{object("$and", jsonval.Listed(q)), object("$or", jsonval.Listed(q)), object("$nor", jsonval.Listed(object("$nor", jsonval.Listed(q)))), turned} {
			g, e := filter.Parse(other)
			if e != api.OK && e != api.ErrNested {
				t.Fatalf("Parse(%s): %d", full(other), e)
			}
			if e == api.OK && g.Match(document) != f.Match(document) {
				t.Fatalf("%s and %s of %s", full(q), full(other), full(document))
			}
		}
	})
}

// meeting is the document with something laid at most places that meets what is needed there, or nearly.
func meeting(d dice, document api.Value, needs []api.Need) api.Value {
	for _, need := range needs {
		x := need.Value
		if need.Op == api.NeedIn && len(x.Items) > 0 {
			x = pick(d, x.Items...)
		}
		x.Int += int64(d.Intn(3) - 1)
		if x.Kind != api.Int {
			x.Int = 0
		}
		if laid, e := dotpath.Set(document, strings.Split(need.Path, "."), x); e == api.OK {
			document = laid
		}
	}
	return document
}

// P4.6.
func TestNeedsAreMet(t *testing.T) {
	names := []string{"", "$eq", "$gt", "$gte", "$lt", "$lte", "$in"}
	met := 0
	rounds(t, 48, func(d dice, q, document api.Value, f *filter.Filter) {
		if document = meeting(d, document, f.Needs()); !f.Match(document) {
			return
		}
		for _, need := range f.Needs() {
			met++
			if alone := object(need.Path, object(names[need.Op], need.Value)); !made(t, alone).Match(document) {
				t.Fatalf("%s takes %s, which does not meet %s", full(q), full(document), full(alone))
			}
		}
	})
	if met < 500 {
		t.Error("few needs were met:", met)
	}
}

// pathsOf tells the paths that a query names at the document itself.
func pathsOf(q api.Value) []string {
	var l []string
	for _, m := range membersOf(q) {
		if !strings.HasPrefix(m.name, "$") {
			l = append(l, m.name)
			continue
		}
		for _, part := range m.item.Items {
			l = append(l, pathsOf(part)...)
		}
	}
	return l
}

func alikeAt(paths []string, a, b api.Value) bool {
	for _, path := range paths {
		segments := strings.Split(path, ".")
		if !slices.EqualFunc(dotpath.All(a, segments), dotpath.All(b, segments), jsonval.Equal) {
			return false
		}
	}
	return true
}

// P4.7: another member, another order of members, a list around the document: where All is the same, so is Match.
func TestValuesAlone(t *testing.T) {
	alike := map[string]int{}
	rounds(t, 49, func(d dice, q, document api.Value, f *filter.Filter) {
		more := odd(api.Object, append([]string{"more"}, document.Names...), append([]api.Value{d.value(2)}, document.Items...)...)
		turned := odd(api.Object, slices.Clone(document.Names), slices.Clone(document.Items)...)
		slices.Reverse(turned.Names)
		slices.Reverse(turned.Items)
		for name, other := range map[string]api.Value{"more": more, "turned": turned, "listed": jsonval.Listed(jsonval.Of(1), document, jsonval.Listed(document)), "other": d.document(2)} {
			if !alikeAt(pathsOf(q), document, other) {
				continue
			}
			alike[name]++
			if f.Match(document) != f.Match(other) {
				t.Fatalf("%s: %s and %s", full(q), full(document), full(other))
			}
		}
	})
	if len(alike) != 4 || min(alike["more"], alike["turned"], alike["listed"], alike["other"]) < 1000 {
		t.Error(alike)
	}
}

// Rule 3: what is handed in is as it was, its spare room too.
func TestNothingHandedInIsWritten(t *testing.T) {
	rounds(t, 50, func(d dice, q, document api.Value, f *filter.Filter) {
		q.Names, q.Items = append(q.Names, "spare")[:len(q.Names)], append(q.Items, jsonval.Of(99))[:len(q.Items)]
		seen := func() string {
			return full(q) + full(document) + full(odd(0, q.Names[:cap(q.Names)], q.Items[:cap(q.Items)]...))
		}
		before := seen()
		g := made(t, q)
		g.Match(document)
		g.Needs()
		if seen() != before {
			t.Fatalf("%s: now %s", before, seen())
		}
	})
}

// Rule 4: a filter is asked again and again, by several at once, and answers the same.
func TestAskedAtOnce(t *testing.T) {
	f := made(t, parsed(t, `{"a":{"$gt":1,"$not":{"$in":[4,5]}},"$or":[{"l":{"$elemMatch":{"n":1}}},{"l":{"$size":0}}]}`))
	documents := map[string]bool{`{"a":2,"l":[]}`: true, `{"a":2,"l":[{"n":1}]}`: true, `{"a":4,"l":[]}`: false, `{"a":2,"l":[{"n":2}]}`: false}
	var all sync.WaitGroup
	for text, want := range documents {
		d := parsed(t, text)
		all.Go(func() {
			for range 500 {
				if f.Match(d) != want || f.Terms() != 6 || len(f.Needs()) != 1 {
					t.Error(text)
				}
			}
		})
	}
	all.Wait()
}
