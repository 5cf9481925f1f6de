package pipe_test

import (
	"math/big"
	"slices"
	"sync"
	"testing"

	"docket/api"
	"docket/jsonval"
	"docket/pipe"
)

// P7.6: wherever a pipe is cut.
func TestStagesFollowOnOneAnother(t *testing.T) {
	d := newDice(74)
	seen := map[api.Errno]int{}
	for range 6000 {
		stages, l := d.stages(d.Intn(6)), d.docs(d.Intn(9))
		if d.Intn(6) == 0 {
			stages = deepening(d, stages)
		}
		if e, _ := parseByWords(stages); e != api.OK {
			continue
		}
		want, wantE, _ := piped(t, stages).Run(l)
		seen[wantE]++
		for cut := range len(stages.Items) + 1 {
			got, e, _ := piped(t, jsonval.Listed(stages.Items[:cut]...)).Run(l)
			if e == api.OK {
				got, e, _ = piped(t, jsonval.Listed(stages.Items[cut:]...)).Run(got)
			}
			if e != wantE || told(got) != told(want) {
				t.Fatalf("%s of %s, cut at %d: %s, %d; want %s, %d", full(stages), told(l), cut, told(got), e, told(want), wantE)
			}
		}
	}
	oftenEnough(t, seen, map[api.Errno]int{api.OK: 2000, api.ErrEval: 200, api.ErrCross: 30, api.ErrOverflow: 10, api.ErrDepth: 30})
}

// P7.6: with too many values too.
func TestTooManyFollowOnOneAnother(t *testing.T) {
	l := []api.Value{object("l", jsonval.Listed(several(api.MaxMade+1, jsonval.Of(1))...))}
	for _, stages := range []string{`[{"$skip":0},{"$unwind":"l"},{"$skip":1}]`, `[{"$set":{"m":1}},{"$unwind":"l"},{"$count":"c"}]`} {
		all := parsed(t, stages).Items
		for cut := range len(all) + 1 {
			got, e, _ := piped(t, jsonval.Listed(all[:cut]...)).Run(l)
			if e == api.OK {
				got, e, _ = piped(t, jsonval.Listed(all[cut:]...)).Run(got)
			}
			if e != api.ErrMuch || got != nil {
				t.Errorf("%s cut at %d: %d", stages, cut, e)
			}
		}
	}
}

// P7.7.
func TestMatchGoesAhead(t *testing.T) {
	d := newDice(75)
	some := 0
	for range 6000 {
		l, a, b := d.docs(d.Intn(9)), object("$match", d.query()), object("$match", d.query())
		sort := object("$sort", d.named(d.Intn(3), d.path, func() api.Value { return jsonval.Of(pick(d, int64(1), -1)) }))
		both := object("$match", object("$and", jsonval.Listed(a.Items[0], b.Items[0])))
		for _, pair := range [][2]api.Value{
			{jsonval.Listed(a, sort), jsonval.Listed(sort, a)},
			{jsonval.Listed(a, b), jsonval.Listed(both)},
			{jsonval.Listed(a, sort, b), jsonval.Listed(both, sort)},
		} {
			one, e, _ := piped(t, pair[0]).Run(l)
			other, why, _ := piped(t, pair[1]).Run(l)
			if e != api.OK || why != api.OK || told(one) != told(other) {
				t.Fatalf("%s and %s of %s: %s, %s", full(pair[0]), full(pair[1]), told(l), told(one), told(other))
			}
			if len(one) > 1 && len(one) < len(l) {
				some++
			}
		}
	}
	if some < 500 {
		t.Errorf("%d were left with some: that says little", some)
	}
}

// P7.8.
func TestCountsAndSumsOfGroups(t *testing.T) {
	d := newDice(76)
	overflows, groups := 0, 0
	for range 6000 {
		l := d.docs(d.Intn(30))
		id := pick(d, jsonval.Word("$k"), jsonval.Word("$w"), jsonval.Word("$n"), operation("$type", jsonval.Word("$m")))
		stage := object("$group", jsonval.Named([]string{"_id", "c", "s"}, id, object("$count", jsonval.Named(nil)), object("$sum", jsonval.Word("$n"))))
		made, e, _ := piped(t, jsonval.Listed(stage)).Run(l)
		if e == api.ErrOverflow {
			overflows++
			continue
		}
		count, sum := int64(0), new(big.Int)
		for _, g := range made {
			c, _ := jsonval.Has(g, "c")
			s, _ := jsonval.Has(g, "s")
			count += c.Int
			sum.Add(sum, big.NewInt(s.Int))
		}
		all := new(big.Int)
		for _, v := range l {
			if n, _ := jsonval.Has(v, "n"); n.Kind == api.Int {
				all.Add(all, big.NewInt(n.Int))
			}
		}
		if e != api.OK || count != int64(len(l)) || sum.Cmp(all) != 0 {
			t.Fatalf("%s of %s: %s, %d", full(stage), told(l), told(made), e)
		}
		groups += len(made)
	}
	if overflows > 3000 || groups < 5000 {
		t.Errorf("%d overflows, %d groups: that says little", overflows, groups)
	}
}

// P7.9: a pipe is the same each time it is run, by several goroutines at once.
func TestRunsAtOnce(t *testing.T) {
	d := newDice(77)
	for range 60 {
		stages := d.stages(1 + d.Intn(5))
		if e, _ := parseByWords(stages); e != api.OK {
			continue
		}
		p := piped(t, stages)
		lists := [][]api.Value{d.docs(8), d.docs(20), numbers(5), nil}
		var wants []string
		for _, l := range lists {
			wants = append(wants, answer(p, l))
		}
		var all sync.WaitGroup
		for i := range 8 {
			all.Go(func() {
				for turn := range 6 {
					at := (i + turn) % len(lists)
					if got := answer(p, lists[at]); got != wants[at] {
						t.Errorf("%s of %s: %s, and before %s", full(stages), told(lists[at]), got, wants[at])
					}
				}
			})
		}
		all.Wait()
	}
}

// answer is all of what Run answers, and what else the pipe tells.
func answer(p *pipe.Pipe, l []api.Value) string {
	made, e, at := p.Run(l)
	first, there := p.First()
	return told(made) + full(jsonval.Listed(jsonval.Of(int64(e)), jsonval.Of(int64(at)), jsonval.Of(int64(p.Stages())), first, jsonval.Flag(there)))
}

// Rule 3: what is handed in stays as it is, its spare room too; what is answered is a list of its own.
func TestNothingIsWritten(t *testing.T) {
	d := newDice(78)
	for range 2500 {
		stages, e := roomy(d.stages(d.Intn(6))), roomy(d.expression(3))
		l := append(make([]api.Value, 0, 12), roomy(jsonval.Listed(d.docs(d.Intn(9))...)).Items...)
		stagesBefore, eBefore, listBefore := spare(stages), spare(e), spare(listOf(l))
		p, why, _ := pipe.Parse(stages)
		pipe.Check(e)
		for _, v := range l {
			pipe.Eval(e, v)
		}
		if why == api.OK {
			checkOwnAnswers(t, p, l)
		}
		if spare(stages) != stagesBefore || spare(e) != eBefore || spare(listOf(l)) != listBefore {
			t.Fatalf("%s, %s or %s was written", stagesBefore, eBefore, listBefore)
		}
	}
}

// listOf has the very list as its Items.
func listOf(l []api.Value) api.Value { return api.Value{Kind: api.List, Items: l} }

// checkOwnAnswers writes all over an answer, and asks that nothing else is another.
func checkOwnAnswers(t *testing.T, p *pipe.Pipe, l []api.Value) {
	t.Helper()
	before, want := told(l[:cap(l)]), answer(p, l)
	for range 2 {
		made, _, _ := p.Run(l)
		other, _, _ := p.Run(l)
		otherBefore := told(other)
		made = made[:cap(made)]
		for i := range made {
			made[i] = jsonval.Word("written")
		}
		if told(l[:cap(l)]) != before || told(other) != otherBefore || answer(p, l) != want {
			t.Fatalf("an answer of %s is shared", before)
		}
	}
}

// Rule 3: an answer is a list of its own where nothing was changed too.
func TestAnswersAreTheirOwn(t *testing.T) {
	for _, stages := range []string{`[]`, `[{"$skip":0}]`, `[{"$limit":9}]`, `[{"$limit":1}]`, `[{"$match":{}}]`, `[{"$sort":{}}]`, `[{"$project":{}}]`, `[{"$unwind":"n"}]`} {
		checkOwnAnswers(t, piped(t, parsed(t, stages)), append(make([]api.Value, 0, 9), numbers(4)...))
	}
	l := append(make([]api.Value, 0, 9), numbers(4)...)
	checkOwnAnswers(t, nil, l)
	if made, _, _ := (*pipe.Pipe)(nil).Run(l); !slices.EqualFunc(made, l, jsonval.Equal) {
		t.Errorf("%s", told(made))
	}
}
