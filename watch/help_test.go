package watch_test

import (
	"math/rand"
	"strconv"
	"strings"
	"testing"

	"docket/api"
	"docket/watch"
)

// text tells all of some changes, as 5c/a2 5c/b1: Stamp, In, Id, Kind.
func text(l []api.Change) string {
	var all []string
	for _, c := range l {
		all = append(all, strconv.FormatInt(c.Stamp, 10)+c.In+"/"+c.Id+strconv.Itoa(c.Kind))
	}
	return strings.Join(all, " ")
}

// ids tells the Ids alone.
func ids(l []api.Change) string {
	var b strings.Builder
	for _, c := range l {
		b.WriteString(c.Id)
	}
	return b.String()
}

// some are changes in a collection, each letter an Id. They bear a Stamp that no log tells.
func some(in, letters string) []api.Change {
	var l []api.Change
	for _, letter := range letters {
		l = append(l, api.Change{Stamp: -77, In: in, Id: string(letter), Kind: api.ChangeUpdate})
	}
	return l
}

func fresh(t *testing.T, keep int) *watch.Log {
	t.Helper()
	l, e := watch.New(keep)
	if e != api.OK || l == nil {
		t.Fatalf("New(%d): %v, %d", keep, l, e)
	}
	return l
}

// whole is all that a log tells of itself: what it has, from its horizon on, and its numbers.
func whole(l *watch.Log) string {
	told, up, e := l.After(l.Horizon(), 0, "")
	return text(told) + " | " + numbers(up, int64(e), l.Horizon(), l.Last(), int64(l.Size()))
}

func numbers(l ...int64) string {
	var all []string
	for _, n := range l {
		all = append(all, strconv.FormatInt(n, 10))
	}
	return strings.Join(all, " ")
}

// expect holds what After tells against what it must.
func expect(t *testing.T, l *watch.Log, after, limit int64, in, want string, up int64) {
	t.Helper()
	got, at, e := l.After(after, limit, in)
	if ids(got) != want || at != up || e != api.OK {
		t.Errorf("%s: After(%d, %d, %q): %s, %d, %d, not %s, %d", whole(l), after, limit, in, text(got), at, e, want, up)
	}
}

func expectGone(t *testing.T, l *watch.Log, after, limit int64, in string) {
	t.Helper()
	if got, at, e := l.After(after, limit, in); len(got) != 0 || at != 0 || e != api.ErrHorizon {
		t.Errorf("%s: After(%d, %d, %q): %s, %d, %d", whole(l), after, limit, in, text(got), at, e)
	}
}

// dice makes what is the same in each run, of few parts, so that much of it meets.
type dice struct{ *rand.Rand }

func newDice(seed int64) dice { return dice{rand.New(rand.NewSource(seed))} }

func pick[T any](d dice, from ...T) T { return from[d.Intn(len(from))] }

func (d dice) in() string { return pick(d, "c", "c", "c", "d", "e", "") }

func (d dice) change() api.Change {
	return api.Change{Stamp: int64(d.Intn(9)) - 3, In: d.in(), Id: pick(d, "a", "b", "x/y", ""), Kind: 1 + d.Intn(3)}
}

// changes are up to most, and now and then none.
func (d dice) changes(most int) []api.Change {
	var l []api.Change
	for range d.Intn(most + 1) {
		l = append(l, d.change())
	}
	return l
}
