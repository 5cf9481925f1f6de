package shape_test

import (
	"slices"
	"strings"
	"sync"
	"testing"

	"docket/api"
	"docket/dotpath"
	"docket/jsonval"
	"docket/shape"
)

// P6.9: of two documents with unlike Ids one is ahead, and it is passed on.
func TestCompareIsATotalOrder(t *testing.T) {
	d := newDice(65)
	alike := 0
	for range 6000 {
		l := d.docs(3, 3)
		s, e := shape.ParseSort(d.order(l[0].Value))
		if e != api.OK {
			t.Fatal(e)
		}
		if d.Intn(3) == 0 {
			l[1].Value, alike = l[0].Value, alike+1
		}
		a, b, c := l[0], l[1], l[2]
		ab, bc, ac := s.Compare(a, b), s.Compare(b, c), s.Compare(a, c)
		if ab == 0 || bc == 0 || ac == 0 || s.Compare(b, a) != -ab || s.Compare(c, b) != -bc {
			t.Fatalf("%q: %d, %d, %d", told(l), ab, bc, ac)
		}
		if ab == bc && ac != ab {
			t.Fatalf("%q: not passed on: %d, %d, %d", told(l), ab, bc, ac)
		}
	}
	if alike < 1000 {
		t.Errorf("%d with alike keys: that says little", alike)
	}
}

// P6.9: Order is a list of the same documents, none behind one that it is ahead of, the same of any list of them.
func TestOrderOfAnyList(t *testing.T) {
	d := newDice(66)
	for range 2000 {
		l := d.docs(1+d.Intn(30), 3)
		s, e := shape.ParseSort(d.order(l[0].Value))
		if e != api.OK {
			t.Fatal(e)
		}
		ordered := s.Order(l)
		for i := range ordered {
			for k := range i {
				if s.Compare(ordered[k], ordered[i]) >= 0 {
					t.Fatalf("%q stands ahead of %q", told(ordered)[k], told(ordered)[i])
				}
			}
		}
		if !slices.Equal(slices.Sorted(slices.Values(told(ordered))), slices.Sorted(slices.Values(told(l)))) {
			t.Fatalf("%q are not %q", told(ordered), told(l))
		}
		d.Shuffle(len(l), func(i, j int) { l[i], l[j] = l[j], l[i] })
		if again := s.Order(l); !slices.Equal(told(again), told(ordered)) {
			t.Fatalf("%q, and of the same in another order %q", told(ordered), told(again))
		}
		if again := s.Order(ordered); !slices.Equal(told(again), told(ordered)) {
			t.Fatalf("%q, and of that %q", told(ordered), told(again))
		}
	}
}

// P6.10: Apply of what Apply made.
func TestApplyTwice(t *testing.T) {
	d := newDice(67)
	for range 20000 {
		x := pick(d, d.document(5), d.document(5), d.value(5))
		if d.Intn(6) == 0 {
			x = d.spoilt(x)
		}
		v := d.fields(x, pick(d, int64(0), 1))
		f, e := shape.ParseFields(v)
		if e != api.OK {
			t.Fatal(full(v), e)
		}
		once := f.Apply(x)
		if twice := f.Apply(once); !jsonval.Equal(once, twice) {
			t.Fatalf("%s of %s: %s, and of that %s", full(v), full(x), full(once), full(twice))
		}
	}
}

// meetsList tells whether the way of a path leads through a list.
func meetsList(v api.Value, path []string) bool {
	for n := range path {
		if x, there := dotpath.Get(v, path[:n]); there && x.Kind == api.List {
			return true
		}
	}
	return false
}

// P6.10: what in lets through and what out leaves are together all members, where no list is met.
func TestInAndOutTogether(t *testing.T) {
	d := newDice(68)
	held := 0
	for range 40000 {
		x := d.document(5)
		v := d.fields(x, 1)
		paths, _, _ := fieldsByWords(v)
		if len(paths) == 0 || slices.ContainsFunc(paths, func(path []string) bool { return meetsList(x, path) }) {
			continue
		}
		held++
		in, e := shape.ParseFields(v)
		if e != api.OK {
			t.Fatal(full(v), e)
		}
		out, e := shape.ParseFields(many(len(v.Names), jsonval.Of(0), func(i int) string { return v.Names[i] }))
		if e != api.OK {
			t.Fatal(full(v), e)
		}
		holdTogether(t, x, in.Apply(x), out.Apply(x))
	}
	if held < 10000 {
		t.Errorf("%d were held: that says little", held)
	}
}

// holdTogether asks that each place of x that has no members is in just one of the two as it is, each other place in one of them, and nothing else in either. (An object without members may be in both: the ways that were let in or left out lead through it.)
func holdTogether(t *testing.T, x, in, out api.Value) {
	t.Helper()
	for path, item := range dotpath.Walk(x) {
		a, inA := dotpath.Get(in, path)
		b, inB := dotpath.Get(out, path)
		plain := item.Kind != api.Object
		switch {
		case !inA && !inB, plain && inA && inB, plain && inA && !jsonval.Equal(a, item), plain && inB && !jsonval.Equal(b, item):
			t.Fatalf("%q of %s: in %s, %v; out %s, %v", path, full(x), full(in), inA, full(out), inB)
		}
	}
	for _, side := range []api.Value{in, out} {
		for path := range dotpath.Walk(side) {
			if _, there := dotpath.Get(x, path); !there {
				t.Fatalf("%q is in %s and not in %s", path, full(side), full(x))
			}
		}
	}
}

// P6.11.
func TestWindowsThatFollow(t *testing.T) {
	for n := range 40 {
		for k := range 45 {
			told := 0
			for skip := 0; skip < n+2*(k+1); skip += k + 1 {
				from, to := shape.Window(n, int64(skip), int64(k+1))
				if from != told || to < from || to-from > k+1 {
					t.Fatalf("Window(%d, %d, %d): %d, %d; told up to %d", n, skip, k+1, from, to, told)
				}
				told = to
			}
			if told != n {
				t.Fatalf("of %d things, %d at a time, %d were told", n, k+1, told)
			}
		}
	}
}

// What is handed in is as it was, its spare room too, and each time the answer is the same.
func TestNothingIsWritten(t *testing.T) {
	d := newDice(69)
	for range 5000 {
		l := d.docs(1+d.Intn(5), 4)
		all := ""
		for i := range l {
			l[i].Value = roomy(l[i].Value)
			all += spare(l[i].Value)
		}
		x := l[0].Value
		sorts, lets := roomy(d.order(x)), roomy(d.fields(x, pick(d, int64(0), 1)))
		before := spare(sorts) + spare(lets) + strings.Join(told(l), " ")
		s, e := shape.ParseSort(sorts)
		f, e2 := shape.ParseFields(lets)
		if e != api.OK || e2 != api.OK {
			t.Fatal(full(sorts), e, full(lets), e2)
		}
		first := full(s.Key(x, 0)) + full(f.Apply(x)) + strings.Join(told(s.Order(l)), " ")
		f.Apply(f.Apply(d.document(4)))
		s.Compare(l[0], l[len(l)-1])
		second := full(s.Key(x, 0)) + full(f.Apply(x)) + strings.Join(told(s.Order(l)), " ")
		if first != second {
			t.Fatalf("%s, and then %s", first, second)
		}
		now := ""
		for i := range l {
			now += spare(l[i].Value)
		}
		if now != all || spare(sorts)+spare(lets)+strings.Join(told(l), " ") != before {
			t.Fatalf("%s: now %s", all+before, now)
		}
	}
}

// What was made of an order and of fields does not hang on what becomes of the lists they were read from.
func TestNothingIsKept(t *testing.T) {
	names, items := []string{"a", "b.c"}, []api.Value{jsonval.Of(1), jsonval.Of(1)}
	v := api.Value{Kind: api.Object, Names: names, Items: items}
	s, _ := shape.ParseSort(v)
	f, _ := shape.ParseFields(v)
	names[0], names[1], items[0], items[1] = "x", "y", jsonval.Of(-1), jsonval.Of(0)
	l := documents(t, `{"a":2,"x":1}`, `{"a":1,"x":2,"b":{"c":1,"d":2}}`)
	if got := ids(s.Order(l)); got != "b a" {
		t.Errorf("Order: %s", got)
	}
	if got := printed(t, f.Apply(l[1].Value)); got != `{"a":1,"b":{"c":1}}` {
		t.Errorf("Apply: %s", got)
	}
}

// Several goroutines at once.
func TestAtOnce(t *testing.T) {
	s, f := sorting(t, `{"a":1,"b":-1}`), letting(t, `{"a":1,"b.c":1}`)
	l := documents(t, `{"a":2,"b":{"c":1,"d":2}}`, `{"a":[1,5],"b":[{"c":1,"d":2},3]}`, `{"b":1,"x":2}`)
	want := []string{`{"a":2,"b":{"c":1}}`, `{"a":[1,5],"b":[{"c":1}]}`, `{}`}
	var all sync.WaitGroup
	for range 8 {
		all.Go(func() {
			for range 300 {
				for i, d := range l {
					if got := full(f.Apply(d.Value)); got != want[i] {
						t.Errorf("Apply: %s, want %s", got, want[i])
						return
					}
				}
				if got := ids(s.Order(l)); got != "c b a" || s.Compare(l[0], l[1]) != 1 {
					t.Errorf("Order: %s", got)
					return
				}
				if got := values(shape.Distinct(l, []string{"a"})); !slices.Equal(got, []string{"1", "2", "5"}) {
					t.Errorf("Distinct: %q", got)
					return
				}
			}
		})
	}
	all.Wait()
}
