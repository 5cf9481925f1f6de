package request_test

import (
	"math"
	"slices"
	"strings"
	"testing"

	"docket/api"
	"docket/jsonval"
	"docket/request"
)

// TestThereAndBack: P16.7.
func TestThereAndBack(t *testing.T) {
	d := newDice(4)
	had := map[int]int{}
	for i := range 10000 {
		raw := d.request(d.op(), i%6)
		r, e, _ := request.Parse(raw)
		if e != api.OK {
			continue
		}
		had[r.Op]++
		text, e := request.Print(r)
		if e != api.OK || len(text) > len(raw) {
			t.Fatalf("Print of %.1000s: %.1000s, %d", raw, text, e)
		}
		back := taken(t, text)
		if !equal(back, r) {
			t.Fatalf("%.1000s is read as %v, %.1000s as %v", raw, r, text, back)
		}
		if again, e := request.Print(back); e != api.OK || again != text {
			t.Fatalf("Print of %.1000s: %.1000s, %d", text, again, e)
		}
	}
	for _, o := range operations {
		if had[o.number] < 20 {
			t.Errorf("%s: %d requests", o.op, had[o.number])
		}
	}
}

// turned is v with its members, and those of its steps, in another order.
func (d dice) turned(v api.Value) api.Value {
	order := d.Perm(len(v.Items))
	turned := api.Value{Kind: v.Kind, Int: v.Int, Text: v.Text}
	for _, i := range order {
		item := v.Items[i]
		if v.Names[i] == "steps" && item.Kind == api.List {
			item = d.turnedSteps(item)
		}
		turned.Names, turned.Items = append(turned.Names, v.Names[i]), append(turned.Items, item)
	}
	return turned
}

func (d dice) turnedSteps(steps api.Value) api.Value {
	l := jsonval.Listed()
	for _, step := range steps.Items {
		if step.Kind == api.Object {
			step = d.turned(step)
		}
		l.Items = append(l.Items, step)
	}
	return l
}

// TestOrderOfMembers: P16.8.
func TestOrderOfMembers(t *testing.T) {
	d := newDice(5)
	taken, not := 0, 0
	for i := range 10000 {
		raw := d.request(d.op(), i%8)
		v, e, _ := jsonval.Parse(raw)
		if e != api.OK || v.Kind != api.Object {
			continue
		}
		r, e, at := request.Parse(raw)
		for range 3 {
			text, _ := jsonval.Print(d.turned(v))
			if other, why, where := request.Parse(text); why != e || where != at || !equal(other, r) {
				t.Fatalf("%.1000s: %d, %d; %.1000s: %d, %d", raw, e, at, text, why, where)
			}
		}
		if e == api.OK {
			taken++
		} else {
			not++
		}
	}
	if taken < 1000 || not < 1000 {
		t.Errorf("%d taken, %d not", taken, not)
	}
}

// reply holds that a text is an object whose first member is ok, and answers it.
func reply(t *testing.T, text string) api.Value {
	t.Helper()
	v, e, _ := jsonval.Parse(text)
	if e != api.OK || v.Kind != api.Object || len(v.Names) == 0 || v.Names[0] != "ok" {
		t.Fatalf("no reply: %.300s", text)
	}
	return v
}

// TestReplies: P16.9 at every error's number, and at items of all kinds, good or not.
func TestReplies(t *testing.T) {
	for e := api.Errno(-10); e < 400; e++ {
		for _, at := range []int{-1, 0, 7, math.MaxInt, math.MinInt} {
			v := reply(t, request.Bad(e, at))
			names := []string{"ok", "error"}
			if at >= 0 {
				names = append(names, "at")
			}
			if !slices.Equal(v.Names, names) || v.Items[0].Kind != api.False || v.Items[1].Text != request.Name(e) || at >= 0 && v.Items[2].Int != int64(at) {
				t.Errorf("Bad(%d, %d): %v", e, at, v)
			}
		}
	}
	d := newDice(6)
	good, bad := 0, 0
	for range 5000 {
		var names []string
		var items []api.Value
		for range d.Intn(4) {
			names = append(names, pick(d, "a", "b", "ok", "", "error", "\xff", strings.Repeat("n", 20000)))
		}
		for range d.Intn(4) {
			items = append(items, pick(d, api.Value{}, jsonval.Of(-1), jsonval.Word("\x00é"), jsonval.Flag(true), jsonval.Listed(), jsonval.Named([]string{"ok"}, jsonval.Of(1)),
				api.Value{Kind: 9}, jsonval.Word("\xff"), jsonval.Word(strings.Repeat("x", 40000))))
		}
		v := reply(t, request.Good(names, items...))
		n := min(len(names), len(items))
		want := jsonval.Named(append([]string{"ok"}, names[:n]...), append([]api.Value{jsonval.Flag(true)}, items[:n]...)...)
		if _, e := jsonval.Print(want); e != api.OK {
			want = jsonval.Named([]string{"ok", "error"}, jsonval.Flag(false), jsonval.Word(request.Name(e)))
			bad++
		} else {
			good++
		}
		if !jsonval.Equal(v, want) {
			t.Fatalf("Good(%.50q, %.300v): %.300v", names, items, v)
		}
	}
	if good < 500 || bad < 500 {
		t.Errorf("%d good, %d bad", good, bad)
	}
}

// TestTextAlone: what a request that is refused is told hangs on its text alone: asked again, between others, it is the same.
func TestTextAlone(t *testing.T) {
	d := newDice(7)
	told := map[string]string{}
	var raws []string
	for i := range 2000 {
		raw := d.request(d.op(), i%10)
		raws = append(raws, raw)
		_, e, at := request.Parse(raw)
		told[raw] = request.Bad(e, at)
	}
	d.Shuffle(len(raws), func(i, j int) { raws[i], raws[j] = raws[j], raws[i] })
	for _, raw := range raws {
		if _, e, at := request.Parse(raw); request.Bad(e, at) != told[raw] {
			t.Errorf("%.300s: %s, and then %s", raw, told[raw], request.Bad(e, at))
		}
	}
}
