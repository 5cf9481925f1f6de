package index_test

import (
	"strconv"
	"testing"

	"docket/api"
	"docket/index"
	"docket/jsonval"
)

// refused holds a change that must be refused against the Key that must be told.
func refused(t *testing.T, x *index.Index, was, now []api.Item, want string) {
	t.Helper()
	before := told(x)
	y, key, e := x.Change(was, now)
	if y != nil || key != want || e != api.ErrUnique {
		t.Errorf("Change(%s, %s) of %s: %v, %q, %d, not %q", itemsText(was), itemsText(now), before, y, key, e, want)
	}
	if told(x) != before {
		t.Errorf("%s has become %s", before, told(x))
	}
}

// P17.2: what goes and what comes, in an index that is not unique.
func TestChange(t *testing.T) {
	x := of(t, plain, items(t, `a {"t":5}`, `b {"t":[5,7]}`, `c {}`, `d {"t":5}`)...)
	for _, c := range []struct {
		was, now []string
		want     string
	}{
		{nil, nil, "5 a, 5 b, 5 d, 7 b, [5,7] b"},
		{[]string{`a {"t":5}`}, nil, "5 b, 5 d, 7 b, [5,7] b"},
		{[]string{`b {"t":[5,7]}`}, nil, "5 a, 5 d"},
		{[]string{`c {}`}, nil, "5 a, 5 b, 5 d, 7 b, [5,7] b"},
		{[]string{`b {"t":1}`}, nil, "5 a, 5 d"}, // by the Key, whatever the value of was is
		{[]string{`b null`, `b null`, `a 1`}, nil, "5 d"},
		{[]string{`q {"t":5}`}, nil, "5 a, 5 b, 5 d, 7 b, [5,7] b"}, // one that is not there
		{[]string{`a 0`, `b 0`, `c 0`, `d 0`}, nil, ""},
		{nil, []string{`e {"t":6}`}, "5 a, 5 b, 5 d, 6 e, 7 b, [5,7] b"},
		{nil, []string{`bb {"t":5}`, `B {"t":5}`}, "5 B, 5 a, 5 b, 5 bb, 5 d, 7 b, [5,7] b"},
		{nil, []string{`e {"t":null}`, `f {"t":true}`}, "null e, 5 a, 5 b, 5 d, 7 b, [5,7] b, true f"},
		{nil, []string{`a {"t":7}`}, "5 b, 5 d, 7 a, 7 b, [5,7] b"}, // it is replaced without being in was
		{nil, []string{`b {}`}, "5 a, 5 d"},
		{nil, []string{`a {"t":5}`}, "5 a, 5 b, 5 d, 7 b, [5,7] b"},
		{nil, []string{`e {"t":1}`, `e {"t":2}`}, "2 e, 5 a, 5 b, 5 d, 7 b, [5,7] b"}, // of one Key the last
		{nil, []string{`e {"t":1}`, `e {}`}, "5 a, 5 b, 5 d, 7 b, [5,7] b"},
		{nil, []string{`a {"t":1}`, `e {"t":1}`, `a {"t":2}`, `a {"t":3}`}, "1 e, 3 a, 5 b, 5 d, 7 b, [5,7] b"},
		{[]string{`a {"t":5}`}, []string{`a {"t":6}`}, "5 b, 5 d, 6 a, 7 b, [5,7] b"},
		{[]string{`a 0`, `b 0`}, []string{`b {"t":1}`, `e {"t":5}`}, "1 b, 5 d, 5 e"},
	} {
		y := changed(t, x, items(t, c.was...), items(t, c.now...))
		if told(y) != c.want {
			t.Errorf("Change(%q, %q): %s, not %s", c.was, c.now, told(y), c.want)
		}
		if told(x) != "5 a, 5 b, 5 d, 7 b, [5,7] b" {
			t.Fatalf("Change(%q, %q): it has become %s", c.was, c.now, told(x))
		}
	}
}

// P17.2: which Key is told.
func TestChangeIsRefused(t *testing.T) {
	x := of(t, unique, items(t, `a {"t":5}`, `b {"t":[6,7]}`, `c {}`)...)
	for _, c := range []struct {
		was, now []string
		want     string
	}{
		{nil, []string{`e {"t":5}`}, "a"},
		{nil, []string{`e {"t":6}`}, "b"},
		{nil, []string{`e {"t":[6,7]}`}, "b"},
		{nil, []string{`e {"t":[[6,7]]}`}, "b"}, // an item of a list is one too
		{nil, []string{`e {"t":[9,5]}`}, "a"},
		{nil, []string{`e {"t":[7,5]}`}, "a"}, // the first entry in the order of values
		{nil, []string{`e {"t":[[6,7],7]}`}, "b"},
		{nil, []string{`c {"t":5}`}, "a"},
		{nil, []string{`a {"t":7}`}, "b"},
		{nil, []string{`e {"t":1}`, `f {"t":1}`}, "e"}, // the one that came first is told
		{nil, []string{`f {"t":1}`, `e {"t":1}`}, "f"},
		{nil, []string{`e {"t":1}`, `f {"t":7}`, `g {"t":1}`}, "b"}, // the first item
		{nil, []string{`e {"t":1}`, `f {"t":1}`, `g {"t":7}`}, "e"},
		{nil, []string{`e {"t":1}`, `f {"t":[5,1]}`}, "e"},
		{nil, []string{`e {"t":8}`, `f {"t":[5,8]}`}, "a"},
		{nil, []string{`e {"t":null}`, `f {"t":null}`}, "e"},
		{nil, []string{`e {"t":[]}`, `f {"t":[[]]}`}, "e"},
		{nil, []string{`e {"t":5}`, `a {"t":9}`}, "a"},              // a has its turn too late
		{nil, []string{`a {"t":9}`, `b {"t":5}`, `e {"t":5}`}, "b"}, // a's value is b's then
		{nil, []string{`e {"t":1}`, `f {"t":1}`, `e {"t":2}`}, "e"}, // so has e here
		{nil, []string{`e {"t":1}`, `e {"t":2}`, `f {"t":1}`, `e {"t":1}`}, "f"},
		{nil, []string{`e {"t":1}`, `e {"t":1}`, `f {"t":1}`}, "e"},
		{nil, []string{`a {"t":5}`, `e {"t":5}`}, "a"},
		{[]string{`a 0`}, []string{`e {"t":6}`}, "b"},
		{[]string{`a 0`}, []string{`e {"t":5}`, `a {"t":5}`}, "e"},
		{[]string{`a 0`}, []string{`e {"t":5}`, `f {"t":5}`}, "e"},
		{[]string{`q 0`}, []string{`e {"t":5}`}, "a"},
		{[]string{`e {"t":5}`}, []string{`e {"t":5}`}, "a"},
	} {
		refused(t, x, items(t, c.was...), items(t, c.now...), c.want)
	}
}

// P17.2: what a unique index takes.
func TestChangeOfUnique(t *testing.T) {
	x := of(t, unique, items(t, `a {"t":5}`, `b {"t":[6,7]}`, `c {}`)...)
	for _, c := range []struct {
		was, now []string
		want     string
	}{
		{nil, []string{`a {"t":5}`}, "5 a, 6 b, 7 b, [6,7] b"}, // its own value is no other's
		{nil, []string{`a {"t":[5,5,[5]]}`}, "5 a, 6 b, 7 b, [5] a, [5,5,[5]] a, [6,7] b"},
		{nil, []string{`e {}`, `f {}`}, "5 a, 6 b, 7 b, [6,7] b"}, // what has nothing at the path has no entry
		{nil, []string{`a {"t":8}`, `e {"t":5}`}, "5 e, 6 b, 7 b, 8 a, [6,7] b"},
		{nil, []string{`b {"t":8}`, `a {"t":6}`, `e {"t":7}`}, "6 a, 7 e, 8 b"},
		{[]string{`a 0`, `b 0`}, []string{`a {"t":6}`, `b {"t":5}`}, "5 b, 6 a"}, // they change their values
		{[]string{`b 0`}, []string{`a {"t":6}`, `b {"t":5}`}, "5 b, 6 a"},
		{[]string{`a 0`}, []string{`e {"t":5}`}, "5 e, 6 b, 7 b, [6,7] b"},
		{nil, []string{`e {"t":1}`, `e {"t":2}`, `f {"t":1}`}, "1 f, 2 e, 5 a, 6 b, 7 b, [6,7] b"},
		{nil, []string{`e {"t":[1,2]}`, `e {"t":2}`, `f {"t":[1]}`, `e {"t":3}`, `g {"t":2}`}, "1 f, 2 g, 3 e, 5 a, 6 b, 7 b, [1] f, [6,7] b"},
		{nil, []string{`a {}`, `e {"t":5}`, `e {}`, `f {"t":5}`}, "5 f, 6 b, 7 b, [6,7] b"},
		{nil, []string{`e {"t":"5"}`, `f {"t":[[5]]}`, `g {"t":{"t":5}}`, `h {"t":false}`, `i {"t":true}`, `j {"t":null}`}, `null j, 5 a, 6 b, 7 b, "5" e, {"t":5} g, [5] f, [6,7] b, [[5]] f, false h, true i`},
		{nil, []string{`e {"t":{"a":1,"b":2}}`, `f {"t":{"b":2,"a":1}}`}, `5 a, 6 b, 7 b, {"a":1,"b":2} e, {"b":2,"a":1} f, [6,7] b`},
	} {
		y := changed(t, x, items(t, c.was...), items(t, c.now...))
		if told(y) != c.want {
			t.Errorf("Change(%q, %q): %s, not %s", c.was, c.now, told(y), c.want)
		}
		if told(x) != "5 a, 6 b, 7 b, [6,7] b" {
			t.Fatalf("Change(%q, %q): it has become %s", c.was, c.now, told(x))
		}
	}
}

// all are the lists of up to most of these items.
func all(from []api.Item, most int) [][]api.Item {
	lists, last := [][]api.Item{nil}, [][]api.Item{nil}
	for range most {
		var longer [][]api.Item
		for _, l := range last {
			for _, item := range from {
				longer = append(longer, append(l[:len(l):len(l)], item))
			}
		}
		lists, last = append(lists, longer...), longer
	}
	return lists
}

// P17.2, P17.10: every change of up to three turns of few Keys and values, from every beginning, as the words say.
func TestEveryChange(t *testing.T) {
	var from []api.Item
	for _, key := range []string{"a", "b", "c"} {
		for _, value := range []string{`{"t":5}`, `{"t":6}`, `{"t":[5,6]}`, `{}`} {
			from = append(from, api.Item{Key: key, Value: parsed(t, value)})
		}
	}
	was := [][]api.Item{nil, from[:1], from[4:5], {from[0], from[5]}}
	now := all(from, 3)
	taken, not := 0, 0
	for _, s := range []api.Spec{plain, unique} {
		for _, first := range all([]api.Item{from[0], from[2], from[5], from[8]}, 2) {
			x, _, e := fresh(t, s).Change(nil, first)
			had, _, want := changeByWords(s, nil, nil, first)
			if e != want {
				t.Fatalf("%s: %d, not %d", itemsText(first), e, want)
			}
			for i := 0; e == api.OK && i < len(was)*len(now); i++ {
				w, n := was[i%len(was)], now[i/len(was)]
				y, key, e := x.Change(w, n)
				l, wantKey, want := changeByWords(s, had, w, n)
				if e != want || key != wantKey || told(y) != toldByWords(l) || (y == nil) != (e != api.OK) {
					t.Fatalf("%v, %s: Change(%s, %s): %s, %q, %d, not %s, %q, %d", s, told(x), itemsText(w), itemsText(n), told(y), key, e, toldByWords(l), wantKey, want)
				}
				if e == api.OK {
					taken++
				} else {
					not++
				}
			}
		}
	}
	if taken < 100000 || not < 50000 {
		t.Errorf("%d taken, %d refused: that says little", taken, not)
	}
}

// P17.2, P17.4: changes at random, as the words say.
func TestChangesByWords(t *testing.T) {
	d := newDice(171)
	not, greatest := 0, 0
	for range 6000 {
		s := d.spec()
		x, had := fresh(t, s), []pair(nil)
		for range 10 {
			was, now := d.items(pick(d, 0, 0, 2)), d.items(pick(d, 1, 3, 8, 16))
			y, key, e := x.Change(was, now)
			l, wantKey, want := changeByWords(s, had, was, now)
			if e != want || key != wantKey || told(y) != toldByWords(l) || y.Size() != len(l) || (y == nil) != (e != api.OK) {
				t.Fatalf("%v, %s: Change(%s, %s): %s, %q, %d, not %s, %q, %d", s, told(x), itemsText(was), itemsText(now), told(y), key, e, toldByWords(l), wantKey, want)
			}
			if told(x) != toldByWords(had) {
				t.Fatalf("%s has become %s", toldByWords(had), told(x))
			}
			if e != api.OK {
				not++
				continue
			}
			x, had = y, l
			greatest = max(greatest, x.Size())
		}
	}
	if not < 5000 || greatest < 20 {
		t.Errorf("%d refused, %d entries: that says little", not, greatest)
	}
}

// P17.2: of as many documents as a collection may have, in one change and one by one.
func TestGreatChange(t *testing.T) {
	const n = api.MaxCapacity
	var l []api.Item
	for i := range n {
		l = append(l, api.Item{Key: strconv.Itoa(i), Value: jsonval.Named([]string{"t"}, jsonval.Of(int64((i*7919)%n)))})
	}
	for _, s := range []api.Spec{plain, unique} {
		x := of(t, s, l...)
		if x.Size() != n {
			t.Fatal(x.Size())
		}
		at := int64(0)
		for v := range x.Each() {
			if v.Int != at {
				t.Fatalf("%d, not %d", v.Int, at)
			}
			at++
		}
		y := x
		for i := range 100 {
			y = changed(t, y, l[i:i+1], []api.Item{{Key: l[i].Key, Value: jsonval.Named([]string{"t"}, jsonval.Of(int64(-i-1)))}})
		}
		if ids := y.Ids(api.NeedLt, jsonval.Of(0)); len(ids) != 100 || x.Size() != n || y.Size() != n {
			t.Fatal(len(ids), x.Size(), y.Size())
		}
		if none := changed(t, y, l, nil); none.Size() != 0 {
			t.Fatal(none.Size())
		}
	}
	twice := append(l, api.Item{Key: "last", Value: l[500].Value})
	refused(t, fresh(t, unique), nil, twice, "500")
}
