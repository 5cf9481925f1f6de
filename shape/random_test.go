package shape_test

import (
	"math"
	"slices"
	"testing"

	"docket/api"
	"docket/jsonval"
	"docket/shape"
)

// P6.1 to P6.3, at orders with faults thrown in and documents of all kinds, against the chapter's words.
func TestOrdersAsTheWordsSay(t *testing.T) {
	d := newDice(61)
	seen := map[api.Errno]int{}
	for range 6000 {
		l := d.docs(d.Intn(8), 4)
		for i := range l {
			if d.Intn(4) == 0 {
				l[i].Value = d.spoilt(l[i].Value)
			}
			if d.Intn(8) == 0 {
				l[i].Id = pick(d, "", "x")
			}
		}
		v := d.order(d.document(4))
		if len(l) > 0 {
			v = d.order(l[0].Value)
		}
		if d.Intn(3) == 0 {
			v = d.faulty(v)
		}
		paths, falling, want := orderByWords(v)
		s, e := shape.ParseSort(v)
		seen[want]++
		if e != want || (s == nil) != (e != api.OK) {
			t.Fatalf("ParseSort(%s): %d, want %d", full(v), e, want)
		}
		if e == api.OK {
			holdOrder(t, s, v, paths, falling, l)
		}
	}
	for e, least := range map[api.Errno]int{api.OK: 3000, api.ErrSort: 300, api.ErrPath: 100, api.ErrMany: 100} {
		if seen[e] < least {
			t.Errorf("%d was told %d times: that says little", e, seen[e])
		}
	}
}

// holdOrder holds Key, Compare and Order against the words, of all documents of the list.
func holdOrder(t *testing.T, s *shape.Sort, v api.Value, paths []string, falling []bool, l []api.Doc) {
	t.Helper()
	for _, a := range l {
		for i := range len(paths) + 2 {
			want := api.Value{}
			if i < len(paths) {
				want = keyByWords(a.Value, paths[i], falling[i])
			}
			if k := s.Key(a.Value, i); !jsonval.Equal(k, want) {
				t.Fatalf("%s: Key(%s, %d): %s, want %s", full(v), full(a.Value), i, full(k), full(want))
			}
		}
		for _, b := range l {
			if c, want := s.Compare(a, b), compareByWords(paths, falling, a, b); c != want {
				t.Fatalf("%s: Compare(%q): %d, want %d", full(v), told([]api.Doc{a, b}), c, want)
			}
		}
	}
	if got, want := told(s.Order(l)), told(inOrderByWords(paths, falling, l)); !slices.Equal(got, want) {
		t.Fatalf("%s: Order(%q): %q, want %q", full(v), told(l), got, want)
	}
}

// P6.4 and P6.5, at fields with faults thrown in and documents of all kinds, against the chapter's words.
func TestFieldsAsTheWordsSay(t *testing.T) {
	d := newDice(62)
	seen, less := map[api.Errno]int{}, 0
	for range 40000 {
		x := d.document(5)
		v := d.fields(x, pick(d, int64(0), 1))
		switch d.Intn(6) {
		case 0:
			x = d.spoilt(x)
		case 1:
			x = d.value(4)
		}
		if d.Intn(3) == 0 {
			v = d.faulty(v)
		}
		paths, in, want := fieldsByWords(v)
		f, e := shape.ParseFields(v)
		seen[want]++
		if e != want || (f == nil) != (e != api.OK) {
			t.Fatalf("ParseFields(%s): %d, want %d", full(v), e, want)
		}
		if e != api.OK {
			continue
		}
		got, told := f.Apply(x), applyByWords(paths, in, x)
		if !jsonval.Equal(got, told) {
			t.Fatalf("%s of %s: %s, want %s", full(v), full(x), full(got), full(told))
		}
		if !jsonval.Equal(got, x) && len(got.Items) > 0 {
			less++
		}
	}
	for e, least := range map[api.Errno]int{api.OK: 20000, api.ErrFields: 1000, api.ErrPath: 500, api.ErrMany: 200, api.ErrBoth: 150, api.ErrClash: 500} {
		if seen[e] < least {
			t.Errorf("%d was told %d times: that says little", e, seen[e])
		}
	}
	if less < 10000 {
		t.Errorf("%d were changed and not emptied: that says little", less)
	}
}

// P6.6, against the chapter's words.
func TestWindowAsTheWordsSay(t *testing.T) {
	d := newDice(63)
	some := func() int64 {
		return pick(d, int64(d.Intn(12)-3), math.MaxInt64-int64(d.Intn(4)), math.MinInt64+int64(d.Intn(4)), int64(d.Uint64()), 1<<31, 1<<32)
	}
	for range 40000 {
		n, skip, limit := int(some()), some(), some()
		from, to := shape.Window(n, skip, limit)
		if wantFrom, wantTo := windowByWords(n, skip, limit); from != wantFrom || to != wantTo {
			t.Fatalf("Window(%d, %d, %d): %d, %d; want %d, %d", n, skip, limit, from, to, wantFrom, wantTo)
		}
	}
}

// P6.7, of values and of Values that are none, against the chapter's words.
func TestDistinctAsTheWordsSay(t *testing.T) {
	d := newDice(64)
	several := 0
	for range 10000 {
		l := d.docs(d.Intn(10), 4)
		for i := range l {
			if d.Intn(4) == 0 {
				l[i].Value = d.spoilt(l[i].Value)
			}
		}
		path := []string{d.name()}
		if len(l) > 0 {
			path = pick(d, path, d.place(l[0].Value), d.named(l[0].Value), nil)
		}
		got, want := values(shape.Distinct(l, path)), values(distinctByWords(l, path))
		if !slices.Equal(got, want) {
			t.Fatalf("%q of %q: %q, want %q", path, told(l), got, want)
		}
		if len(got) > 2 {
			several++
		}
	}
	if several < 3000 {
		t.Errorf("%d had several values: that says little", several)
	}
}
