package filter_test

import (
	"slices"
	"testing"

	"docket/api"
	"docket/filter"
	"docket/jsonval"
)

// P4.3.
func TestTerms(t *testing.T) {
	for q, want := range map[string]int{
		`{}`: 0, `{"a":1}`: 1, `{"a":{}}`: 1, `{"a":{"$gt":1}}`: 1, `{"a":{"$gt":1,"$lt":2}}`: 2, `{"a":1,"b":2,"c":{"$in":[1,2,3]}}`: 3, `{"a":{"b":1,"$gt":2}}`: 1,
		`{"$and":[{}]}`: 0, `{"$or":[{"a":1},{"b":{"$gt":1,"$ne":2}}],"$nor":[{"c":1}]}`: 4, `{"a":5,"$and":[{"b":{"$gt":1}}],"$or":[{"c":1}]}`: 3,
		`{"a":{"$not":{"$gt":1}}}`: 2, `{"a":{"$not":{"$gt":1,"$not":{"$lt":2}}}}`: 4, `{"a":{"$elemMatch":{}}}`: 1, `{"a":{"$elemMatch":{"$gt":1,"$lt":2}}}`: 3, `{"a":{"$elemMatch":{"b":1,"$or":[{"c":1},{"d":{"$elemMatch":{"$eq":1}}}]}}}`: 5,
	} {
		if f := made(t, parsed(t, q)); f.Terms() != want {
			t.Errorf("Terms of %s: %d, want %d", q, f.Terms(), want)
		}
	}
}

func sameNeeds(a, b []api.Need) bool {
	return slices.EqualFunc(a, b, func(x, y api.Need) bool {
		return x.Path == y.Path && x.Op == y.Op && jsonval.Equal(x.Value, y.Value)
	})
}

// P4.3.
func TestNeeds(t *testing.T) {
	for _, c := range []struct {
		query string
		want  []api.Need
	}{
		{`{}`, nil},
		{`{"a":5,"$and":[{"b":{"$gt":1}}],"$or":[{"c":1}]}`, []api.Need{{Path: "a", Op: 1, Value: jsonval.Of(5)}, {Path: "b", Op: 2, Value: jsonval.Of(1)}}},
		{`{"a.b":{"$lte":1,"$lt":2,"$in":[3],"$gte":4,"$gt":5,"$eq":6}}`, []api.Need{{Path: "a.b", Op: 5, Value: jsonval.Of(1)}, {Path: "a.b", Op: 4, Value: jsonval.Of(2)}, {Path: "a.b", Op: 6, Value: jsonval.Listed(jsonval.Of(3))}, {Path: "a.b", Op: 3, Value: jsonval.Of(4)}, {Path: "a.b", Op: 2, Value: jsonval.Of(5)}, {Path: "a.b", Op: 1, Value: jsonval.Of(6)}}},
		{`{"a":{"$ne":1,"$nin":[1],"$all":[1],"$exists":true,"$type":"int","$size":1,"$mod":[1,0],"$not":{"$eq":1},"$elemMatch":{"$eq":1}}}`, nil},
		{`{"a":{"$ne":1,"$gt":2,"$exists":true}}`, []api.Need{{Path: "a", Op: 2, Value: jsonval.Of(2)}}},
		{`{"$or":[{"a":1}],"$nor":[{"b":1}],"c":{"$elemMatch":{"d":1}}}`, nil},
		{`{"$or":[{"$and":[{"a":1}]}],"$nor":[{"$and":[{"b":1}]}]}`, nil},
		{`{"z":1,"$and":[{"y":2,"$and":[{"x":3},{"w":4}]},{"v":5}],"u":{"t":6}}`, []api.Need{{Path: "z", Op: 1, Value: jsonval.Of(1)}, {Path: "y", Op: 1, Value: jsonval.Of(2)}, {Path: "x", Op: 1, Value: jsonval.Of(3)}, {Path: "w", Op: 1, Value: jsonval.Of(4)}, {Path: "v", Op: 1, Value: jsonval.Of(5)}, {Path: "u", Op: 1, Value: object("t", jsonval.Of(6))}}},
		{`{"$and":[{"$or":[{"a":1}]},{"b":{}}]}`, []api.Need{{Path: "b", Op: 1, Value: api.Value{Kind: api.Object}}}},
		{`{"a":null,"b":{"$in":[]}}`, []api.Need{{Path: "a", Op: 1}, {Path: "b", Op: 6, Value: jsonval.Listed()}}},
	} {
		if l := made(t, parsed(t, c.query)).Needs(); !sameNeeds(l, c.want) {
			t.Errorf("Needs of %s: %v, want %v", c.query, l, c.want)
		}
	}
}

// P4.3: two members of one name, which jsonval.Check refuses, are two clauses and two operators.
func TestNeedsOfOddQueries(t *testing.T) {
	one, two := jsonval.Of(1), jsonval.Of(2)
	q := odd(api.Object, []string{"a", "a", "b"}, one, odd(api.Object, []string{"$gt", "$gt", "$lt"}, one, two))
	want := []api.Need{{Path: "a", Op: 1, Value: one}, {Path: "a", Op: 2, Value: one}, {Path: "a", Op: 2, Value: two}}
	if f := made(t, q); !sameNeeds(f.Needs(), want) || f.Terms() != 3 {
		t.Errorf("Needs: %v, Terms: %d", f.Needs(), f.Terms())
	}
}

// P4.3: each answer is a list of its own, down to its spare room.
func TestNeedsAnswersAListOfItsOwn(t *testing.T) {
	f := made(t, parsed(t, `{"a":1,"b":2,"c":3}`))
	first := f.Needs()
	second := f.Needs()
	for i := range first[:cap(first)] {
		first[:cap(first)][i] = api.Need{Path: "x"}
	}
	want := []api.Need{{Path: "a", Op: 1, Value: jsonval.Of(1)}, {Path: "b", Op: 1, Value: jsonval.Of(2)}, {Path: "c", Op: 1, Value: jsonval.Of(3)}}
	if !sameNeeds(second, want) || !sameNeeds(f.Needs(), want) {
		t.Errorf("%v, %v", second, f.Needs())
	}
}

// P4.3: against the chapter's words.
func TestNeedsByTheWords(t *testing.T) {
	d := newDice(43)
	told := 0
	for range 20000 {
		q := d.query(4)
		f, e := filter.Parse(q)
		if e != api.OK {
			continue
		}
		l := f.Needs()
		told += len(l)
		if !sameNeeds(l, needsOf(q)) {
			t.Fatalf("Needs of %s: %v, want %v", full(q), l, needsOf(q))
		}
	}
	if told < 10000 {
		t.Error("few needs:", told)
	}
}

// P4.4.
func TestNilFilter(t *testing.T) {
	var f *filter.Filter
	for _, d := range []api.Value{{}, jsonval.Of(1), parsed(t, document), {Kind: -5}} {
		if !f.Match(d) {
			t.Errorf("a nil Filter does not take %s", full(d))
		}
	}
	if f.Terms() != 0 || len(f.Needs()) != 0 {
		t.Errorf("a nil Filter: %d terms, needs %v", f.Terms(), f.Needs())
	}
}
