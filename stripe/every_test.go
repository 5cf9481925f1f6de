package stripe_test

import (
	"slices"
	"testing"

	"docket/api"
	"docket/chain"
	"docket/prim"
	"docket/sched"
	"docket/stripe"
)

// errand is what a client does with the key: it drops what it has from the beginning on, and takes and drops, with the latch locked or not.
type errand struct {
	has    bool
	takes  int
	latch  bool
	leaves bool // it keeps what it took last
}

// link is the errand by the words.
func (x errand) link(p *plainTable, key string, e *plainEntry) *chain.Link {
	left := x.takes
	var next func() *chain.Link
	drop := func(e *plainEntry) *chain.Link { return p.drop(e, next) }
	next = func() *chain.Link {
		if left == 0 {
			return nil
		}
		left--
		return p.take(key, func(e *plainEntry) *chain.Link {
			switch {
			case left == 0 && x.leaves:
				return nil
			case x.latch:
				return e.latch(toLock, func() *chain.Link {
					return e.latch(toUnlock, func() *chain.Link { return drop(e) })
				})
			}
			return drop(e)
		})
	}
	if x.has {
		return drop(e)
	}
	return next()
}

// body is the errand itself.
func (x errand) body(t *testing.T, s *story, key string, e *stripe.Entry) client {
	return func(c *sched.Client) {
		if x.has {
			s.drop(t, c, e)
		}
		for i := range x.takes {
			e := s.take(t, c, key)
			if x.leaves && i == x.takes-1 {
				return
			}
			if x.latch {
				s.locked(t, c, e, nil)
			}
			s.drop(t, c, e)
		}
	}
}

// firstOf is a table, by the words, with an entry that so many errands have from the beginning on.
func firstOf(errands []errand) (*plainTable, *plainEntry) {
	p := newPlain(objLock, 1)
	var e *plainEntry
	for _, x := range errands {
		if x.has {
			chain.Done(p.take("k", func(made *plainEntry) *chain.Link {
				e = made
				return nil
			}))
		}
	}
	return p, e
}

// P15.2, P15.3, P15.7 to P15.10: every schedule of some clients about one key.
func TestEverySchedule(t *testing.T) {
	all := 0
	for what, errands := range map[string][]errand{
		"two take it":                {{takes: 1, leaves: true}, {takes: 1, leaves: true}},
		"two drop it":                {{has: true}, {has: true}},
		"one drops it, one takes it": {{has: true}, {takes: 1, leaves: true}},
		"one drops it, one takes, locks and drops it":          {{has: true}, {takes: 1, latch: true}},
		"two drop it, one takes it":                            {{has: true}, {has: true}, {takes: 1, leaves: true}},
		"two drop it, one takes and drops it":                  {{has: true}, {has: true}, {takes: 1}},
		"one drops it, two take it":                            {{has: true}, {takes: 1, leaves: true}, {takes: 1, leaves: true}},
		"one drops it, two take and drop it":                   {{has: true}, {takes: 1}, {takes: 1}},
		"one drops it, one takes and drops it twice":           {{has: true}, {takes: 2}},
		"one drops and takes it, one takes and drops it":       {{has: true, takes: 1, leaves: true}, {takes: 1}},
		"one drops, takes and drops it, one does so twice":     {{has: true, takes: 1}, {takes: 2}},
		"two take and drop it":                                 {{takes: 1}, {takes: 1}},
		"two take, lock and drop it":                           {{takes: 1, latch: true}, {takes: 1, latch: true}},
		"one takes, locks and drops it, one takes and has it":  {{takes: 1, latch: true}, {takes: 1, leaves: true}},
		"one takes and drops it twice, another one has it too": {{takes: 2}, {takes: 1, leaves: true}},
	} {
		start := func() []*chain.Link {
			p, e := firstOf(errands)
			var links []*chain.Link
			for _, x := range errands {
				links = append(links, x.link(p, "k", e))
			}
			return links
		}
		for script := range chain.Every(start) {
			all++
			wantErrands(t, errands, script, chain.Play(start(), script).Events)
			if t.Failed() {
				t.Fatalf("%s, under %v", what, script)
			}
		}
	}
	if all < 70000 {
		t.Errorf("%d schedules only", all)
	}
}

func wantErrands(t *testing.T, errands []errand, script []int, want []api.Event) {
	t.Helper()
	s := newStory(t, prim.Scripted(), 1)
	var e *stripe.Entry
	left := 0
	for _, x := range errands {
		if x.has {
			e = s.take(t, nil, "k")
		}
		if x.leaves {
			left = 1
		}
	}
	var bodies []client
	for _, x := range errands {
		bodies = append(bodies, x.body(t, s, "k", e))
	}
	r := mustEnd(t, bodies, script...)
	if !slices.Equal(r.Events, want) {
		t.Errorf("%v; want %v", r.Events, want)
	}
	wantKept(t, r.Events, len(bodies))
	wantEntries(t, s.table, left)
	if left > 0 && s.table.Take(nil, "k") != s.has["k"][0] {
		t.Error("another one")
	}
}
