package watch_test

import (
	"math"
	"slices"
	"strings"
	"testing"

	"docket/api"
	"docket/watch"
)

// P18.1.
func TestNew(t *testing.T) {
	for _, keep := range []int{1, 2, 3, 100, 4095, 4096} {
		l := fresh(t, keep)
		if whole(l) != " | 0 0 0 0 0" {
			t.Errorf("New(%d): %s", keep, whole(l))
		}
		if other := fresh(t, keep); other == l {
			t.Errorf("New(%d): the same log twice", keep)
		}
		full := l.With(1, make([]api.Change, keep)...)
		if full.Size() != keep || full.Horizon() != 0 {
			t.Errorf("New(%d) keeps %d, with the horizon %d", keep, full.Size(), full.Horizon())
		}
		if more := full.With(2, api.Change{}); more.Size() != keep || more.Horizon() != 1 {
			t.Errorf("New(%d) keeps %d, with the horizon %d", keep, more.Size(), more.Horizon())
		}
	}
	for _, keep := range []int{0, -1, -4096, 4097, 8192, math.MaxInt, math.MinInt, math.MaxInt32, math.MinInt32} {
		if l, e := watch.New(keep); l != nil || e != api.ErrArg {
			t.Errorf("New(%d): %v, %d", keep, l, e)
		}
	}
	if api.MaxKeep != 4096 || api.ErrHorizon != 180 || api.ErrArg != 2 {
		t.Error(api.MaxKeep, api.ErrHorizon, api.ErrArg)
	}
}

// P18.2: behind the others, in their order, each with the stamp, whatever Stamp it bore.
func TestWith(t *testing.T) {
	changes := []api.Change{
		{Stamp: 0, In: "c", Id: "a", Kind: api.ChangeInsert}, {Stamp: 9, In: "d", Id: "b", Kind: api.ChangeDelete},
		{Stamp: -5, In: "", Id: "", Kind: 0}, {Stamp: 5, In: "c", Id: "a", Kind: -7}, {Stamp: math.MaxInt64, In: "c", Id: "a", Kind: 2},
	}
	l := fresh(t, 10).With(5, changes...).With(8, changes[1]).With(math.MaxInt64, changes[:2]...)
	const want = "5c/a1 5d/b3 5/0 5c/a-7 5c/a2 8d/b3 9223372036854775807c/a1 9223372036854775807d/b3"
	if got, up, e := l.After(0, 0, ""); text(got) != want || up != math.MaxInt64 || e != api.OK {
		t.Errorf("%s, %d, %d", text(got), up, e)
	}
	if l.Size() != 8 || l.Last() != math.MaxInt64 || l.Horizon() != 0 {
		t.Error(whole(l))
	}
}

// P18.2: of them the last as many as it keeps; P18.3: the greatest stamp of those that have gone.
func TestWhatGoes(t *testing.T) {
	for _, c := range []struct {
		keep  int
		steps string // what is laid in with the stamps 10, 20, 30 ..
		want  string
	}{
		{1, "a", "10c/a2 | 10 0 0 10 1"},
		{1, "a b", "20c/b2 | 20 0 10 20 1"},
		{1, "ab", " | 10 0 10 10 1"},
		{1, "a bcd", " | 20 0 20 20 1"},
		{2, "ab", "10c/a2 10c/b2 | 10 0 0 10 2"},
		{2, "abc", " | 10 0 10 10 2"},
		{2, "ab c", "20c/c2 | 20 0 10 20 2"},
		{2, "ab cd", "20c/c2 20c/d2 | 20 0 10 20 2"},
		{2, "a bcd", " | 20 0 20 20 2"},
		{3, "ab cd", "20c/c2 20c/d2 | 20 0 10 20 3"},
		{3, "a b c", "10c/a2 20c/b2 30c/c2 | 30 0 0 30 3"},
		{3, "a b c d", "20c/b2 30c/c2 40c/d2 | 40 0 10 40 3"},
		{3, "a b cd", "20c/b2 30c/c2 30c/d2 | 30 0 10 30 3"},
		{3, "a b cde", "30c/c2 30c/d2 30c/e2 | 30 0 20 30 3"},
		{3, "a b cdef", " | 30 0 30 30 3"},
		{3, "abc def", "20c/d2 20c/e2 20c/f2 | 20 0 10 20 3"},
		{3, "abcd e", "20c/e2 | 20 0 10 20 3"},
		{3, "abcd ef g", "20c/e2 20c/f2 30c/g2 | 30 0 10 30 3"},
		{3, "abcd ef g h", "30c/g2 40c/h2 | 40 0 20 40 3"},
		{4, "abc def", "20c/d2 20c/e2 20c/f2 | 20 0 10 20 4"},
	} {
		l := fresh(t, c.keep)
		for i, letters := range strings.Fields(c.steps) {
			l = l.With(int64(10*i+10), some("c", letters)...)
		}
		if whole(l) != c.want {
			t.Errorf("keeping %d, %s: %s, not %s", c.keep, c.steps, whole(l), c.want)
		}
	}
}

// P18.2: they go one by one, from the first on, not stamp by stamp: what is left of a stamp counts, though After tells nothing of it any more.
func TestWhichGo(t *testing.T) {
	l := fresh(t, 4).With(3, some("c", "ab")...).With(5, some("c", "cd")...)
	if whole(l.With(6, some("c", "e")...)) != "5c/c2 5c/d2 6c/e2 | 6 0 3 6 4" {
		t.Error(whole(l.With(6, some("c", "e")...)))
	}
	if whole(l.With(6, some("c", "ef")...)) != "5c/c2 5c/d2 6c/e2 6c/f2 | 6 0 3 6 4" {
		t.Error(whole(l.With(6, some("c", "ef")...)))
	}
	if whole(l.With(6, some("c", "efg")...)) != "6c/e2 6c/f2 6c/g2 | 6 0 5 6 4" {
		t.Error(whole(l.With(6, some("c", "efg")...)))
	}
}

// P18.2: the log itself, where nothing is laid in.
func TestWithNothing(t *testing.T) {
	empty, l := fresh(t, 3), fresh(t, 3).With(5, some("c", "ab")...)
	for _, c := range []struct {
		l       *watch.Log
		stamp   int64
		changes []api.Change
	}{
		{empty, 5, nil}, {empty, 5, []api.Change{}}, {empty, 0, some("c", "x")}, {empty, -1, some("c", "x")}, {empty, math.MinInt64, some("c", "xy")}, {empty, 0, nil},
		{l, 6, nil}, {l, math.MaxInt64, nil}, {l, 5, some("c", "x")}, {l, 4, some("c", "x")}, {l, 0, some("c", "xyz")}, {l, -5, some("c", "x")}, {l, math.MinInt64, some("c", "x")}, {l, 5, nil},
	} {
		before := whole(c.l)
		if got := c.l.With(c.stamp, c.changes...); got != c.l || whole(c.l) != before {
			t.Errorf("%s: With(%d, %s): %s", before, c.stamp, text(c.changes), whole(got))
		}
	}
	if one := empty.With(1, some("c", "x")...); one == empty || whole(one) != "1c/x2 | 1 0 0 1 1" {
		t.Error(whole(one))
	}
	if more := l.With(6, some("c", "x")...); more == l || whole(more) != "5c/a2 5c/b2 6c/x2 | 6 0 0 6 3" {
		t.Error(whole(more))
	}
	full := fresh(t, 1).With(math.MaxInt64, some("c", "a")...)
	if full.With(math.MaxInt64, some("c", "b")...) != full {
		t.Error(whole(full))
	}
}

// P18.2, P18.3 and P18.4 on the way to long logs, against the words.
func TestAsTheWordsSay(t *testing.T) {
	d := newDice(181)
	gone, limited, same := 0, 0, 0
	for range 1500 {
		keep := pick(d, 1, 2, 3, 5, 8, 13, 20, 40, 60)
		l, p, stamp := fresh(t, keep), plain{keep: keep}, int64(0)
		for range 15 {
			stamp += int64(pick(d, -2, 0, 1, 1, 1, 1, 2, 5))
			changes := d.changes(pick(d, 1, 2, 3, 7, keep+2))
			next, itself := p.with(stamp, changes)
			m := l.With(stamp, changes...)
			if (m == l) != itself {
				t.Fatalf("%s: With(%d, %s): the log itself? %v", whole(l), stamp, text(changes), m == l)
			}
			l, p = m, next
			if _, has := p.parts(); l.Last() != p.last() || l.Horizon() != p.horizon() || l.Size() != len(has) {
				t.Fatalf("%s, not %s", whole(l), numbers(p.horizon(), p.last(), int64(len(has))))
			}
			if itself {
				same++
			}
		}
		for range 40 {
			after, limit, in := d.Int63n(l.Last()+3)-1, int64(d.Intn(keep+4)-1), d.in()
			if d.Intn(3) > 0 {
				after = l.Horizon() + d.Int63n(l.Last()-l.Horizon()+2)
			}
			want, up, e := p.after(after, limit, in)
			got, at, f := l.After(after, limit, in)
			if !slices.Equal(got, want) || at != up || f != e {
				t.Fatalf("keeping %d, %s: After(%d, %d, %q): %s, %d, %d, not %s, %d, %d", keep, whole(l), after, limit, in, text(got), at, f, text(want), up, e)
			}
			if e != api.OK {
				gone++
			} else if up < l.Last() {
				limited++
			}
		}
	}
	if gone < 5000 || limited < 2000 || same < 1000 {
		t.Errorf("%d gone, %d limited, %d the same: that says little", gone, limited, same)
	}
}

// P18.6.
func TestNil(t *testing.T) {
	var l *watch.Log
	if l.Horizon() != 0 || l.Last() != 0 || l.Size() != 0 {
		t.Error(l.Horizon(), l.Last(), l.Size())
	}
	if l.With(5, some("c", "a")...) != nil || l.With(5) != nil || l.With(-5, some("c", "a")...) != nil || l.With(0) != nil {
		t.Error("With of nil")
	}
	for _, limit := range []int64{math.MinInt64, -1, 0, 1, math.MaxInt64} {
		for _, in := range []string{"", "c"} {
			for _, after := range []int64{math.MinInt64, -7, -1, 0, 1, 7, math.MaxInt64} {
				got, up, e := l.After(after, limit, in)
				if len(got) != 0 || up != max(after, 0) || e != api.OK {
					t.Errorf("After(%d, %d, %q) of nil: %s, %d, %d", after, limit, in, text(got), up, e)
				}
			}
		}
	}
}
