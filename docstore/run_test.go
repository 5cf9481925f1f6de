package docstore_test

import (
	"fmt"
	"slices"
	"strings"
	"testing"

	"docket/api"
	"docket/docstore"
)

// P24.8: the errors, the first one first; and the limits.
func TestRunErrors(t *testing.T) {
	long := make([]int, maxScript+1)
	stat := quoted("{'op':'stat'}")
	many := slices.Repeat([]string{stat}, maxCalls+1)
	for _, x := range []struct {
		what   string
		c      api.StoreConfig
		calls  [][]string
		script []int
		want   int
	}{
		{"no clients", of(0), nil, nil, isArg},
		{"no clients, and a long script", of(0), nil, long, isArg},
		{"a list too few", of(2), make([][]string, 1), nil, isArg},
		{"a list too many", of(2), make([][]string, 3), nil, isArg},
		{"no lists", of(2), nil, nil, isArg},
		{"too many calls", of(2), [][]string{nil, many}, nil, isArg},
		{"too many calls, and a long script", of(2), [][]string{many, nil}, long, isArg},
		{"a list too few, and a long script", of(2), make([][]string, 1), long, isArg},
		{"a long script", of(2), make([][]string, 2), long, isLong},
	} {
		p, e := docstore.Run(x.c, x.calls, x.script)
		if int(e) != x.want || fmt.Sprint(p) != fmt.Sprint(api.Played{}) || p.End.Pins != nil {
			t.Errorf("%s: %d, %+v", x.what, e, p)
		}
	}
	p := mustRun(t, of(2), [][]string{many[:maxCalls], {"x", stat}}, long[:maxScript])
	// call ld st ld st ret of each but the one that is no request: call ret.
	if len(p.Calls) != maxCalls+2 || p.Run.Used != 6*(maxCalls+1)+2 || len(p.Run.Events) != p.Run.Used {
		t.Errorf("%d calls, %d used", len(p.Calls), p.Run.Used)
	}
	for _, x := range p.Calls {
		if x.Ended < 0 {
			t.Fatalf("%+v", x)
		}
	}
}

// P24.8: what is told of a call as far as it came, wherever it is stopped: a create, a get, a next, and one that is no request.
func TestCallsAsFar(t *testing.T) {
	raws := quotedAll("{'op':'create','in':'c'}", get("a"), "{'op':'next','cursor':1}", "?", "{'op':'create','in':'c'}")
	// create: call L ld st get U ret; get: call ld st ld st ret; next: call ret; ?: call ret; create.
	whole := []api.Call{
		{Raw: raws[0], Reply: quoted("{'ok':true,'stamp':1}"), Stamp: 1, Began: 0, Point: 3, Ended: 6},
		{Raw: raws[1], Reply: no("none"), Stamp: 1, Began: 7, Point: 10, Ended: 12},
		{Raw: raws[2], Reply: no("none"), Stamp: -1, Began: 13, Point: -1, Ended: 14},
		{Raw: raws[3], Reply: no("token"), Stamp: -1, Began: 15, Point: -1, Ended: 16},
		{Raw: raws[4], Reply: no("there"), Stamp: 2, Began: 17, Point: 20, Ended: 23},
	}
	for n := range 30 {
		p := mustRun(t, of(1), [][]string{raws}, make([]int, n))
		var want []api.Call
		for _, x := range whole {
			if x.Began >= n {
				break
			}
			if x.Point >= n {
				x.Point, x.Stamp = -1, -1
			}
			if x.Ended >= n {
				x.Ended, x.Reply = -1, ""
			}
			want = append(want, x)
		}
		if !slices.Equal(p.Calls, want) {
			t.Errorf("%d:\n%s\nnot\n%s", n, tellCalls(p.Calls), tellCalls(want))
		}
		stamp := 0
		for _, at := range []int{3, 20} {
			if n > at {
				stamp++
			}
		}
		if p.End.Stamp != int64(stamp) || p.Run.Used != min(n, 24) || p.Run.Stuck {
			t.Errorf("%d: %+v", n, p.End)
		}
	}
}

// P24.8: a change with latches loads the root three times: none of these is its point, and stopped ahead of its Store it has none; the calls are told by the events at which they began, not by clients.
func TestPointOfChange(t *testing.T) {
	calls := [][]string{quotedAll("{'op':'create','in':'c'}", inc("a", 1)), quotedAll("{'op':'stat'}", inc("b", 1))}
	whole := mustRun(t, of(2), calls, enough())
	for n := range whole.Run.Events {
		p := mustRun(t, of(2), calls, make([]int, n))
		for i, x := range p.Calls {
			w := whole.Calls[i]
			if (w.Point < n) != (x.Point == w.Point) || w.Point >= n && (x.Point != -1 || x.Stamp != -1) || x.Point >= 0 && x.Stamp != w.Stamp {
				t.Fatalf("%d: %+v", n, x)
			}
		}
	}
	for _, x := range whole.Calls {
		if isStamped(x.Raw) != (whole.Run.Events[x.Point].Step == api.Step{Kind: kindStore, Obj: objKeeper}) {
			t.Errorf("%+v", x)
		}
	}
	p := mustRun(t, of(2), calls, append([]int{1, 0, 1, 1}, enough()...))
	got := ""
	for _, x := range p.Calls {
		got += fmt.Sprint(x.Client, "@", x.Began, " ")
	}
	if !strings.HasPrefix(got, "1@0 0@1 0@") || !strings.HasSuffix(got, fmt.Sprint("1@", p.Calls[3].Began, " ")) {
		t.Error(got)
	}
}

// P24.8: clients without calls have ended; a script without entries lets nobody begin.
func TestRunOfLittle(t *testing.T) {
	p := mustRun(t, of(3), [][]string{nil, quotedAll("{'op':'stat'}"), {}}, nil)
	if fmt.Sprint(p.Run) != "{[] [] [1 0 1] [{0 0 0} {10 8 1} {0 0 0}] false 0}" || len(p.Calls) != 0 || p.End.Stamp != 0 || len(p.End.Pins) != 15 {
		t.Errorf("%+v", p)
	}
	p = mustRun(t, of(1), make([][]string, 1), enough())
	if fmt.Sprint(p.Run) != "{[] [] [1] [{0 0 0}] false 0}" || len(p.Calls) != 0 {
		t.Errorf("%+v", p)
	}
}

// P24.8: one value: a run is the same each time, changes nothing of what it is given, and a beginning of its script leads to its beginning.
func TestRunAgain(t *testing.T) {
	for seed := range int64(60) {
		x := newDice(800000 + seed).scene()
		calls, script := fmt.Sprint(x.calls), slices.Clone(x.script)
		p := mustRun(t, x.c, x.calls, x.script)
		if fmt.Sprint(x.calls) != calls || !slices.Equal(x.script, script) {
			t.Fatalf("%v: what was handed in has changed", x)
		}
		wantPlayed(t, fmt.Sprint(seed), mustRun(t, x.c, x.calls, x.script), p)
		half := len(p.Run.Events) / 2
		q := mustRun(t, x.c, x.calls, x.script[:half])
		if !slices.Equal(q.Run.Events, p.Run.Events[:half]) || !slices.Equal(q.Run.Notes, p.Run.Notes[:len(q.Run.Notes)]) {
			t.Fatalf("%v: another beginning", x)
		}
	}
}
