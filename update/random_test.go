package update_test

import (
	"slices"
	"testing"

	"docket/api"
	"docket/jsonval"
	"docket/update"
)

// P5.1, P5.2: against the chapter's words, at updates with faults thrown in.
func TestParseByTheWords(t *testing.T) {
	d := newDice(51)
	refused := map[api.Errno]int{}
	for range 100000 {
		ops, filters := d.update(d.document(4))
		for range d.Intn(3) {
			if d.Intn(4) == 0 {
				filters = d.faulty(filters)
			} else {
				ops = d.faulty(ops)
			}
		}
		switch d.Intn(30) {
		case 0:
			ops = d.spoilt(ops)
		case 1:
			filters = d.spoilt(filters)
		}
		var w words
		want := w.update(ops, filters)
		refused[want]++
		wantAt := len(w.terms)
		if want == api.OK {
			wantAt = 0
		}
		u, e, at := update.Parse(ops, filters)
		if e != want || at != wantAt || (u == nil) != (want != api.OK) {
			t.Fatalf("Parse(%s, %s): %d at %d; want %d at %d", full(ops), full(filters), e, at, want, wantAt)
		}
		if want == api.OK && (u.Terms() != len(w.terms) || !slices.Equal(u.Touches(), w.texts)) {
			t.Fatalf("%s: %d, %q; want %d, %q", full(ops), u.Terms(), u.Touches(), len(w.terms), w.texts)
		}
	}
	for _, e := range []api.Errno{api.OK, api.ErrUpdate, api.ErrVerb, api.ErrPath, api.ErrGive, api.ErrClash, api.ErrFilters, api.ErrOperator, api.ErrOperand, api.ErrDepth, api.ErrValue, api.ErrName} {
		if refused[e] < 100 {
			t.Errorf("%d: only %d updates", e, refused[e])
		}
	}
}

// P5.3: against the chapter's words.
func TestApplyByTheWords(t *testing.T) {
	d := newDice(53)
	found, changes := map[api.Errno]int{}, 0
	for range 100000 {
		v := d.document(4)
		ops, filters := d.update(v)
		var w words
		if w.update(ops, filters) != api.OK {
			continue
		}
		fresh := d.Intn(2) == 0
		want, wantE, wantAt := w.apply(v, filters, fresh)
		found[wantE]++
		got, changed, e, at := made(t, ops, filters).Apply(v, fresh)
		if e != wantE || at != wantAt || !jsonval.Equal(got, want) || e != api.OK && !isZero(got) || changed != (e == api.OK && !jsonval.Equal(want, v)) {
			t.Fatalf("%s, %s of %s: %s, %v, %d at %d; want %s, %d at %d", full(ops), full(filters), full(v), full(got), changed, e, at, full(want), wantE, wantAt)
		}
		if changed {
			changes++
		}
	}
	for _, e := range []api.Errno{api.OK, api.ErrKind, api.ErrCross, api.ErrIndex, api.ErrWhere, api.ErrOverflow} {
		if found[e] < 200 {
			t.Errorf("%d: only %d updates", e, found[e])
		}
	}
	if changes < 10000 {
		t.Error("few changes:", changes)
	}
}
