package pipe_test

import (
	"testing"

	"docket/api"
	"docket/jsonval"
	"docket/pipe"
)

// oftenEnough asks that errors were met, each so many times.
func oftenEnough(t *testing.T, seen, least map[api.Errno]int) {
	t.Helper()
	for e, n := range least {
		if seen[e] < n {
			t.Errorf("%d was told %d times: that says little", e, seen[e])
		}
	}
}

// P7.1 and P7.2, at expressions with faults thrown in and values of all kinds, against the chapter's words.
func TestExpressionsAsTheWordsSay(t *testing.T) {
	d := newDice(71)
	checked, evaluated := map[api.Errno]int{}, map[api.Errno]int{}
	for range 60000 {
		e, v := d.expression(4), d.docs(1)[0]
		switch d.Intn(8) {
		case 0:
			e = d.faulty(e)
		case 1:
			e = d.faulty(d.faulty(e))
		case 2:
			e, v = d.deepened(e), nested(30, v)
		}
		if d.Intn(40) == 0 {
			e = d.spoilt(e)
		}
		want := checkByWords(e)
		checked[want]++
		if why := pipe.Check(e); why != want {
			t.Fatalf("Check(%s): %d, want %d", full(e), why, want)
		}
		if d.Intn(40) == 0 {
			v = d.spoilt(v)
		}
		said := api.Value{}
		if want == api.OK {
			want = jsonval.Check(v)
		}
		if want == api.OK {
			said, want = evalByWords(e, v)
		}
		evaluated[want]++
		if got, why := pipe.Eval(e, v); why != want || !jsonval.Equal(got, said) {
			t.Fatalf("Eval(%s, %s): %s, %d; want %s, %d", full(e), full(v), full(got), why, full(said), want)
		}
	}
	oftenEnough(t, checked, map[api.Errno]int{api.OK: 40000, api.ErrExpr: 5000, api.ErrPath: 500, api.ErrValue: 200, api.ErrName: 100, api.ErrDepth: 100})
	oftenEnough(t, evaluated, map[api.Errno]int{api.OK: 20000, api.ErrEval: 5000, api.ErrOverflow: 100, api.ErrDivide: 100, api.ErrDepth: 500, api.ErrValue: 300, api.ErrName: 100})
}

// P7.3, at pipes with faults thrown in, against the chapter's words.
func TestParseAsTheWordsSay(t *testing.T) {
	d := newDice(72)
	seen, places := map[api.Errno]int{}, map[int]int{}
	for range 40000 {
		stages := d.stages(d.Intn(5))
		if d.Intn(12) == 0 {
			stages = d.stages(14 + d.Intn(4))
		}
		for range d.Intn(3) {
			stages = d.faulty(stages)
		}
		if d.Intn(40) == 0 {
			stages = d.spoilt(stages)
		}
		want, wantAt := parseByWords(stages)
		seen[want]++
		places[wantAt]++
		p, e, at := pipe.Parse(stages)
		if e != want || at != wantAt || (p == nil) != (e != api.OK) {
			t.Fatalf("Parse(%s): %d at %d; want %d at %d", full(stages), e, at, want, wantAt)
		}
		if p == nil {
			continue
		}
		q, matches := p.First()
		first, wantMatches := api.Value{}, false
		if len(stages.Items) > 0 && stages.Items[0].Names[0] == "$match" {
			first, wantMatches = stages.Items[0].Items[0], true
		}
		if p.Stages() != len(stages.Items) || matches != wantMatches || !jsonval.Equal(q, first) {
			t.Fatalf("%s: %d stages, first %s, %t", full(stages), p.Stages(), full(q), matches)
		}
	}
	oftenEnough(t, seen, map[api.Errno]int{
		api.OK: 15000, api.ErrPipe: 2000, api.ErrStage: 300, api.ErrSpec: 2000, api.ErrExpr: 1000, api.ErrPath: 500, api.ErrClash: 100,
		api.ErrFilter: 100, api.ErrOperator: 50, api.ErrSort: 100, api.ErrFields: 100, api.ErrBoth: 8, api.ErrValue: 100, api.ErrName: 50, api.ErrDepth: 100,
	})
	for at := range 4 {
		if places[at] < 300 {
			t.Errorf("%d at stage %d: that says little", places[at], at)
		}
	}
}

// P7.4, at lists of all kinds, against the chapter's words.
func TestRunAsTheWordsSay(t *testing.T) {
	d := newDice(73)
	seen, places := map[api.Errno]int{}, map[int]int{}
	filled := 0
	for range 40000 {
		stages, l := d.stages(d.Intn(6)), d.docs(d.Intn(9))
		if d.Intn(10) == 0 {
			stages = deepening(d, stages)
		}
		if d.Intn(40) == 0 && len(l) > 0 {
			i := d.Intn(len(l))
			l[i] = d.spoilt(l[i])
		}
		if e, _ := parseByWords(stages); e != api.OK {
			continue
		}
		want, wantE, wantAt := runByWords(stages, l)
		seen[wantE]++
		got, e, at := piped(t, stages).Run(l)
		if e != wantE || at != wantAt || told(got) != told(want) {
			t.Fatalf("%s of %s: %s, %d at %d; want %s, %d at %d", full(stages), told(l), told(got), e, at, told(want), wantE, wantAt)
		}
		if e != api.OK {
			places[at]++
		} else if len(got) > 1 {
			filled++
		}
	}
	oftenEnough(t, seen, map[api.Errno]int{api.OK: 15000, api.ErrEval: 2000, api.ErrOverflow: 100, api.ErrDivide: 100, api.ErrDepth: 200, api.ErrCross: 200, api.ErrIndex: 50, api.ErrValue: 100, api.ErrName: 30})
	for at := range 4 {
		if places[at] < 200 {
			t.Errorf("%d at stage %d: that says little", places[at], at)
		}
	}
	if filled < 5000 {
		t.Errorf("%d with several values behind them: that says little", filled)
	}
}

// deepening is a pipe with stages thrown in that nest values deeper and deeper.
func deepening(d dice, stages api.Value) api.Value {
	var l []api.Value
	for _, s := range stages.Items {
		inner := nested(d.Intn(40), jsonval.Word(pick(d, "$", "$n", "$x")))
		l = append(l, s, pick(d, object("$set", object("x", inner)), object("$group", jsonval.Named([]string{"_id", "x"}, inner, object(pick(d, "$push", "$addToSet", "$max"), inner)))))
	}
	return jsonval.Listed(l...)
}
