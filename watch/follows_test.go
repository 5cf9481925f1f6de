package watch_test

import (
	"slices"
	"sync"
	"testing"

	"docket/api"
	"docket/watch"
)

// follower asks a log again and again.
type follower struct {
	in    string
	up    int64        // up to where it was told
	begun int          // how many changes had been laid in when it began
	told  []api.Change // all that it was told
	gone  bool         // it was told ErrHorizon
}

func (f *follower) ask(l *watch.Log, limit int64) {
	told, up, e := l.After(f.up, limit, f.in)
	if e != api.OK {
		f.gone = true
		return
	}
	f.told, f.up = append(f.told, told...), up
}

// since are the changes of its collection that were laid in since it began.
func (f *follower) since(laid []api.Change) []api.Change {
	var l []api.Change
	for _, c := range laid[f.begun:] {
		if f.in == "" || c.In == f.in {
			l = append(l, c)
		}
	}
	return l
}

// P18.7: who asks from Last on, with any limits, is told each change once, in order; P18.9: ErrHorizon only when more changes went by than are kept.
func TestFollowing(t *testing.T) {
	d := newDice(185)
	lost, held := 0, 0
	for range 3000 {
		keep := pick(d, 1, 3, 6, 10, 30)
		l, p := fresh(t, keep), plain{keep: keep}
		var all []*follower
		for range 40 {
			switch d.Intn(4) {
			case 0:
				all = append(all, &follower{in: d.in(), up: l.Last(), begun: len(p.all)})
			case 1:
				stamp, changes := l.Last()+int64(d.Intn(3)), d.changes(pick(d, 1, 2, 4))
				p, _ = p.with(stamp, changes)
				l = l.With(stamp, changes...)
			default:
				if len(all) > 0 {
					askOne(t, pick(d, all...), l, p, int64(d.Intn(7)-1))
				}
			}
		}
		for _, f := range all {
			for !f.gone && f.up < l.Last() {
				askOne(t, f, l, p, int64(d.Intn(7)-1))
			}
			if f.gone {
				lost++
				continue
			}
			held++
			if !slices.Equal(f.told, f.since(p.all)) {
				t.Fatalf("%q: told %s, not %s", f.in, text(f.told), text(f.since(p.all)))
			}
		}
	}
	if lost < 1000 || held < 1000 {
		t.Errorf("%d lost, %d held: that says little", lost, held)
	}
}

// askOne has a follower ask, and holds what it was told so far against what was laid in.
func askOne(t *testing.T, f *follower, l *watch.Log, p plain, limit int64) {
	t.Helper()
	if f.gone {
		return
	}
	before := f.up
	f.ask(l, limit)
	behind := 0
	for _, c := range p.all {
		if c.Stamp > before {
			behind++
		}
	}
	if f.gone && behind <= p.keep {
		t.Fatalf("%s: ErrHorizon behind %d, since when %d were laid in", whole(l), before, behind)
	}
	if since := f.since(p.all); len(f.told) > len(since) || !slices.Equal(f.told, since[:len(f.told)]) {
		t.Fatalf("%q: told %s, not the first of %s", f.in, text(f.told), text(since))
	}
}

// P18.9, at the edge: as many as are kept may go by, and not one more, where each has a stamp of its own.
func TestHorizonAtTheEdge(t *testing.T) {
	for _, keep := range []int{1, 2, 7, api.MaxKeep} {
		l := fresh(t, keep)
		for i := range keep + 5 {
			l = l.With(int64(i+1), api.Change{In: "c"})
			after := int64(i + 1 - keep)
			if after < 0 {
				continue
			}
			if got, up, e := l.After(after, 0, "c"); len(got) != keep || up != l.Last() || e != api.OK {
				t.Fatal(keep, i, len(got), up, e)
			}
			if _, _, e := l.After(after-1, 0, "c"); e != api.ErrHorizon {
				t.Fatal(keep, i, e)
			}
		}
	}
}

// P18.8: nothing of a log changes when others are made from it, from one several; its size is at most what it keeps.
func TestOldOnesStay(t *testing.T) {
	d := newDice(186)
	for range 1500 {
		keep := pick(d, 1, 2, 4, 9, 20)
		all := []*watch.Log{fresh(t, keep)}
		were := []string{whole(all[0])}
		for range 25 {
			l := pick(d, all...)
			m := l.With(l.Last()+1, d.changes(pick(d, 2, 5, 2*keep))...)
			all, were = append(all, m), append(were, whole(m))
			if m.Size() > keep {
				t.Fatalf("keeping %d: %s", keep, whole(m))
			}
		}
		for i, l := range all {
			if whole(l) != were[i] {
				t.Fatalf("%s has become %s", were[i], whole(l))
			}
		}
	}
}

// Rule 3: lists that are handed in are neither changed nor kept, their spare room neither.
func TestArgumentsStay(t *testing.T) {
	roomy := append(make([]api.Change, 0, 9), some("c", "abcdefg")...)
	before := text(roomy[:9])
	for n := range 6 {
		l := fresh(t, 3).With(2, some("d", "xy")...).With(5, roomy[:n]...)
		want := whole(l)
		if text(roomy[:9]) != before {
			t.Fatalf("%s has become %s", before, text(roomy[:9]))
		}
		for i := range n {
			roomy[i] = api.Change{Stamp: 4, In: "other", Id: "other"}
		}
		if whole(l) != want {
			t.Errorf("%s has become %s", want, whole(l))
		}
		copy(roomy, some("c", "abcdefg"))
	}
}

// Rule 3: so are those of Merge, the list of lists too.
func TestMergeLeavesItsArguments(t *testing.T) {
	for _, words := range []string{"1 2 3", "3 1,2 2", "1 2 3,1 2 3,0 5", ",1,,2 2,4"} {
		all := append(make([][]api.Change, 0, 9), lists(words)...)
		for i, l := range all {
			all[i] = append(append(make([]api.Change, 0, len(l)+3), l...), some("c", "xyz")...)[:len(l)]
		}
		held := func() string {
			told := ""
			for _, l := range all {
				told += text(l[:cap(l)]) + ", "
			}
			return told
		}
		before := held()
		got := watch.Merge(all...)
		want := text(got)
		for _, l := range all[len(all):cap(all)] {
			if l != nil {
				t.Error(text(l))
			}
		}
		if held() != before {
			t.Errorf("%s has become %s", before, held())
		}
		other := watch.Merge(all...)
		spoil(other)
		if held() != before || text(got) != want {
			t.Errorf("%s has become %s, %s %s", before, held(), want, text(got))
		}
		for _, l := range all {
			spoil(l)
		}
		if text(got) != want {
			t.Errorf("%s has become %s", want, text(got))
		}
	}
}

// spoil writes over a list, its spare room too.
func spoil(l []api.Change) {
	l = l[:cap(l)]
	for i := range l {
		l[i] = api.Change{Stamp: 3, In: "other", Id: "other", Kind: 9}
	}
}

// Rule 3: what After answers is a new list each time.
func TestAnswersAreNew(t *testing.T) {
	l := fresh(t, 8).With(2, some("c", "ab")...).With(3, some("d", "e")...).With(4, some("c", "fg")...)
	want := whole(l)
	for _, limit := range []int64{0, 1, 2, 3, 4, 9} {
		for _, in := range []string{"", "c", "d"} {
			first, _, _ := l.After(0, limit, in)
			second, _, _ := l.After(0, limit, in)
			told := text(second)
			spoil(first)
			if text(second) != told || whole(l) != want {
				t.Errorf("After(0, %d, %q): %s has become %s, %s", limit, in, told, text(second), whole(l))
			}
		}
	}
	m := l.With(5, some("c", "h")...)
	answer, _, _ := m.After(0, 0, "")
	spoil(answer)
	if whole(l) != want || whole(m) != "2c/a2 2c/b2 3d/e2 4c/f2 4c/g2 5c/h2 | 5 0 0 5 6" {
		t.Error(whole(l), whole(m))
	}
}

// A log is read by many while others are made from it.
func TestBesideOneAnother(t *testing.T) {
	l := fresh(t, 5).With(2, some("c", "ab")...).With(3, some("d", "e")...)
	was := whole(l)
	faults := make([]string, 8)
	var wait sync.WaitGroup
	for i := range faults {
		wait.Go(func() {
			for n := range 300 {
				m := l.With(int64(4+i), some("c", "uvwxyz"[:1+n%6])...)
				if m.Last() != int64(4+i) || m.Size() != min(5, 4+n%6) || whole(l) != was {
					faults[i] = whole(l) + ", " + whole(m)
				}
			}
		})
	}
	wait.Wait()
	for _, fault := range faults {
		if fault != "" {
			t.Error(fault)
		}
	}
}
