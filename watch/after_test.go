package watch_test

import (
	"math"
	"testing"

	"docket/api"
)

// P18.4: what is above after, and up to where, without a limit.
func TestAfter(t *testing.T) {
	l := fresh(t, 9).With(5, some("c", "ab")...).With(7, some("d", "e")...).With(9, append(some("c", "f"), some("d", "g")...)...)
	for _, limit := range []int64{0, -1, -100, math.MinInt64, 5, 6, 4096, math.MaxInt64} {
		expect(t, l, 0, limit, "", "abefg", 9)
		expect(t, l, 4, limit, "", "abefg", 9)
		expect(t, l, 5, limit, "", "efg", 9)
		expect(t, l, 6, limit, "", "efg", 9)
		expect(t, l, 7, limit, "", "fg", 9)
		expect(t, l, 8, limit, "", "fg", 9)
		expect(t, l, 9, limit, "", "", 9)
		expect(t, l, 10, limit, "", "", 10)
		expect(t, l, math.MaxInt64, limit, "", "", math.MaxInt64)
		expect(t, l, 0, limit, "c", "abf", 9)
		expect(t, l, 5, limit, "c", "f", 9)
		expect(t, l, 0, limit, "d", "eg", 9)
		expect(t, l, 7, limit, "d", "g", 9)
		expect(t, l, 0, limit, "no", "", 9) // a collection of which nothing is told
		expect(t, l, 20, limit, "no", "", 20)
		expect(t, l, 0, limit, "C", "", 9)
		expect(t, l, 0, limit, "cd", "", 9)
	}
}

// P18.4: an after below 0 is below the horizon, be it 0.
func TestAfterBelowTheHorizon(t *testing.T) {
	empty := fresh(t, 3)
	one := empty.With(5, some("c", "ab")...)
	two := one.With(6, some("c", "c")...).With(7, some("c", "ef")...)
	over := two.With(9, some("c", "uvwxyz")...)
	for _, limit := range []int64{-1, 0, 1, 9} {
		for _, in := range []string{"", "c", "d"} {
			for _, after := range []int64{-1, -2, math.MinInt64} {
				expectGone(t, empty, after, limit, in)
				expectGone(t, one, after, limit, in)
				expectGone(t, two, after, limit, in)
			}
			expectGone(t, two, 0, limit, in)
			expectGone(t, two, 4, limit, in)
			expectGone(t, over, 5, limit, in)
			expectGone(t, over, 8, limit, in)
			expect(t, over, 9, limit, in, "", 9)
			expect(t, empty, 0, limit, in, "", 0)
			expect(t, empty, 3, limit, in, "", 3)
			expect(t, two, 7, limit, in, "", 7)
		}
	}
	expect(t, two, 5, 0, "", "cef", 7)
	expect(t, two, 6, 0, "", "ef", 7)
}

// P18.4: stamp by stamp, as long as they are at most limit together.
func TestAfterWithALimit(t *testing.T) {
	l := fresh(t, 20).With(2, some("c", "ab")...).With(3, some("c", "d")...).With(5, some("c", "efg")...).With(8, some("c", "h")...)
	for _, c := range []struct {
		after, limit int64
		want         string
		up           int64
	}{
		{0, 1, "ab", 2}, {0, 2, "ab", 2}, {0, 3, "abd", 3}, {0, 4, "abd", 3}, {0, 5, "abd", 3}, {0, 6, "abdefg", 5}, {0, 7, "abdefgh", 8}, {0, 8, "abdefgh", 8},
		{2, 1, "d", 3}, {2, 2, "d", 3}, {2, 3, "d", 3}, {2, 4, "defg", 5}, {2, 5, "defgh", 8},
		{3, 1, "efg", 5}, {3, 2, "efg", 5}, {3, 3, "efg", 5}, {3, 4, "efgh", 8}, {4, 1, "efg", 5},
		{5, 1, "h", 8}, {7, 1, "h", 8}, {8, 1, "", 8}, {9, 1, "", 9},
	} {
		expect(t, l, c.after, c.limit, "", c.want, c.up)
		expect(t, l, c.after, c.limit, "c", c.want, c.up)
	}
	// A later stamp that would still find room is not told ahead of one that does not.
	expect(t, l, 2, 2, "", "d", 3)
	// Those of the first stamp are told, however many there are: of the only one up to Last.
	many := fresh(t, api.MaxKeep).With(4, make([]api.Change, api.MaxKeep)...)
	if got, up, e := many.After(0, 1, ""); len(got) != api.MaxKeep || up != 4 || e != api.OK {
		t.Error(len(got), up, e)
	}
}

// P18.4: with a collection only its changes count, for the limit too; and all of them are told where only others' are left.
func TestAfterWithALimitAndACollection(t *testing.T) {
	l := fresh(t, 20).With(1, some("d", "u")...).With(2, append(some("c", "ab"), some("d", "v")...)...).With(3, some("d", "wx")...).
		With(4, append(some("d", "y"), some("c", "e")...)...).With(6, some("d", "z")...)
	for _, c := range []struct {
		after, limit int64
		in, want     string
		up           int64
	}{
		{0, 1, "c", "ab", 2}, {0, 2, "c", "ab", 2}, {0, 3, "c", "abe", 6}, {1, 1, "c", "ab", 2},
		{2, 1, "c", "e", 6}, {3, 1, "c", "e", 6}, {4, 1, "c", "", 6}, {6, 1, "c", "", 6},
		{0, 1, "d", "u", 1}, {0, 2, "d", "uv", 2}, {0, 3, "d", "uv", 2}, {0, 4, "d", "uvwx", 3}, {0, 5, "d", "uvwxy", 4}, {0, 6, "d", "uvwxyz", 6},
		{2, 1, "d", "wx", 3}, {0, 3, "", "u", 1}, {0, 4, "", "uabv", 2}, {1, 1, "", "abv", 2},
	} {
		expect(t, l, c.after, c.limit, c.in, c.want, c.up)
	}
	// More of the first stamp than the limit, and then of other collections alone.
	first := fresh(t, 20).With(2, some("c", "abe")...).With(5, some("d", "x")...)
	expect(t, first, 0, 1, "c", "abe", 5)
	expect(t, first, 0, 1, "", "abe", 2)
	// The horizon is that of all changes, also of those of other collections.
	cut := fresh(t, 1).With(3, some("d", "x")...).With(4, some("c", "a")...)
	expectGone(t, cut, 2, 0, "c")
	expect(t, cut, 3, 0, "c", "a", 4)
}

// The chapter's examples.
func TestExamples(t *testing.T) {
	l := fresh(t, 3).With(5, some("c", "ab")...)
	l = l.With(6, some("c", "c")...)
	if l.With(6, some("c", "d")...) != l {
		t.Error("a second time 6")
	}
	expect(t, l, 0, 0, "", "abc", 6)
	expect(t, l, 5, 0, "", "c", 6)
	expect(t, l, 0, 1, "", "ab", 5)
	expect(t, l, 6, 0, "", "", 6)
	expect(t, l, 9, 0, "", "", 9)
	m := l.With(7, some("c", "ef")...)
	if m.Horizon() != 5 {
		t.Error(m.Horizon())
	}
	expectGone(t, m, 4, 0, "")
	expect(t, m, 5, 0, "", "cef", 7)
}
