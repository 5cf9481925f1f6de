package update_test

import (
	"slices"
	"strings"
	"sync"
	"testing"

	"docket/api"
	"docket/dotpath"
	"docket/jsonval"
	"docket/update"
)

// rounds hands updates that Parse takes, with documents, to check.
func rounds(t *testing.T, seed int64, check func(d dice, ops, filters, v api.Value, u *update.Update)) {
	t.Helper()
	d, n := newDice(seed), 0
	for range 30000 {
		v := d.document(4)
		ops, filters := d.update(v)
		if u, e, _ := update.Parse(ops, filters); e == api.OK {
			n++
			check(d, ops, filters, v, u)
		}
	}
	if n < 10000 {
		t.Error("few rounds:", n)
	}
}

// P5.6: what is handed in is as it was, its spare room too, whether or not there is an error; and each time the answer is the same.
func TestAllOrNothing(t *testing.T) {
	failures := 0
	rounds(t, 56, func(d dice, ops, filters, v api.Value, _ *update.Update) {
		ops, filters, v = roomy(ops), roomy(filters), roomy(v)
		before := spare(ops) + spare(filters) + spare(v)
		u := made(t, ops, filters)
		fresh := d.Intn(2) == 0
		first, changed, e, at := u.Apply(v, fresh)
		told := full(first)
		u.Apply(d.document(4), !fresh)
		second, again, e2, at2 := u.Apply(v, fresh)
		if full(second) != told || full(first) != told || again != changed || e2 != e || at2 != at {
			t.Fatalf("%s of %s: %s, %v, %d at %d, and then %s, %v, %d at %d", full(ops), full(v), told, changed, e, at, full(second), again, e2, at2)
		}
		if now := spare(ops) + spare(filters) + spare(v); now != before {
			t.Fatalf("%s: now %s", before, now)
		}
		if e != api.OK {
			failures++
			if !isZero(first) || changed {
				t.Fatalf("%s of %s: %d beside %s, %v", full(ops), full(v), e, full(first), changed)
			}
		}
	})
	if failures < 1000 {
		t.Error("few failures:", failures)
	}
}

// P5.6: what was answered stays as it is when more is made of it, by the same update and by others.
func TestAnswersStay(t *testing.T) {
	u := made(t, parsed(t, `{"$push":{"a":1,"b":{"$each":[1,2],"$position":0,"$slice":3}},"$addToSet":{"c":{"$each":[1,2]}},"$pop":{"d":-1},"$pull":{"e":1},"$pullAll":{"f":[1]},"$set":{"g.h":[1]}}`), api.Value{})
	grow := made(t, parsed(t, `{"$push":{"a":7,"b":7,"c":7,"d":7,"e":7,"f":7,"g.h":7}}`), api.Value{})
	v := parsed(t, `{"a":[5],"b":[5,6,7],"c":[2,5],"d":[1,2,3],"e":[1,2,1,3],"f":[1,2,3]}`)
	for range 3 {
		was := printed(t, v)
		next, _ := applied(t, u, v, false)
		told := printed(t, next)
		one, _ := applied(t, grow, next, false)
		toldOne := printed(t, one)
		applied(t, grow, next, false)
		applied(t, u, next, false)
		if printed(t, v) != was || printed(t, next) != told || printed(t, one) != toldOne {
			t.Fatalf("%s is %s; %s is %s; %s is %s", was, printed(t, v), told, printed(t, next), toldOne, printed(t, one))
		}
		v = next
	}
}

// P5.6: several goroutines at once.
func TestAppliedAtOnce(t *testing.T) {
	u := made(t, parsed(t, `{"$inc":{"n":1,"l.$[e].q":10},"$push":{"t":{"$each":["y"],"$position":0}},"$addToSet":{"s":{"$each":[1,2]}},"$pullAll":{"p":[1]},"$pull":{"r":{"$gt":1}},"$rename":{"a":"b"}}`), parsed(t, `[{"e.q":{"$gt":1}}]`))
	documents := map[string]string{
		`{}`:                                 "",
		document:                             `{"n":6,"t":["y","x"],"l":[{"q":1},{"q":12}],"s":[1,2]}`,
		`{"l":[],"p":[1,2],"r":[1,2],"a":1}`: `{"l":[],"p":[2],"r":[1],"n":1,"t":["y"],"s":[1,2],"b":1}`,
		`{"n":"x","l":[]}`:                   "",
		`{"l":[{"q":5}],"s":[2]}`:            `{"l":[{"q":15}],"s":[2,1],"n":1,"t":["y"]}`,
	}
	var all sync.WaitGroup
	for text, want := range documents {
		d := parsed(t, text)
		for range 3 {
			all.Go(func() {
				for range 300 {
					v, _, e, _ := u.Apply(d, false)
					if got, _ := jsonval.Print(v); (e == api.OK) != (want != "") || want != "" && got != want || u.Terms() != 7 || len(u.Touches()) != 8 {
						t.Error(text, got, e)
						return
					}
				}
			})
		}
	}
	all.Wait()
}

func clashesWithOne(path []string, texts []string) bool {
	return slices.ContainsFunc(texts, func(text string) bool { return clash(strings.Join(path, "."), text) })
}

// P5.7: of all places of the document that was and of the one that is.
func TestTheRestIsAsItWas(t *testing.T) {
	held := 0
	rounds(t, 57, func(d dice, ops, filters, v api.Value, u *update.Update) {
		w, _, e, _ := u.Apply(v, d.Intn(2) == 0)
		if e != api.OK {
			return
		}
		for _, side := range []api.Value{v, w} {
			for path := range dotpath.Walk(side) {
				if clashesWithOne(path, u.Touches()) {
					continue
				}
				held++
				was, thereThen := dotpath.Get(v, path)
				is, thereNow := dotpath.Get(w, path)
				if thereThen != thereNow || !jsonval.Equal(was, is) {
					t.Fatalf("%s of %s: %s, in which %q is another", full(ops), full(v), full(w), path)
				}
			}
		}
	})
	if held < 20000 {
		t.Error("few places:", held)
	}
}

// P5.8: two $inc of one place.
func TestIncInEitherOrder(t *testing.T) {
	d := newDice(58)
	same, beyond := 0, 0
	for range 20000 {
		v := d.document(3)
		path := strings.NewReplacer("$[x]", "$[]", "$[y]", "$[]").Replace(d.path(v))
		a := made(t, object("$inc", object(path, d.operand("$inc"))), api.Value{})
		b := made(t, object("$inc", object(path, d.operand("$inc"))), api.Value{})
		ab, e1 := both(v, a, b)
		ba, e2 := both(v, b, a)
		switch {
		case e1 == api.OK && e2 == api.OK && jsonval.Equal(ab, ba):
			same++
		case e1 == api.ErrOverflow || e2 == api.ErrOverflow:
			beyond++
		case e1 != e2 || e1 == api.OK:
			t.Fatalf("%s at %s: %s, %d and %s, %d", full(v), path, full(ab), e1, full(ba), e2)
		}
	}
	if same < 1000 || beyond < 1000 {
		t.Error("few:", same, beyond)
	}
}

// both applies one update behind the other.
func both(v api.Value, first, second *update.Update) (api.Value, api.Errno) {
	v, _, e, _ := first.Apply(v, false)
	if e != api.OK {
		return v, e
	}
	v, _, e, _ = second.Apply(v, false)
	return v, e
}

// P5.8: what changes nothing the second time.
func TestTheSecondTime(t *testing.T) {
	d := newDice(59)
	for _, verb := range []string{"$addToSet", "$set", "$unset", "$min", "$max", "$pullAll"} {
		changes := 0
		for range 5000 {
			v := d.document(4)
			path := d.path(v)
			if d.Intn(4) == 0 {
				v, path = object("l", jsonval.Listed(jsonval.Listed(d.values(1, 9)...), jsonval.Listed(d.values(1, 9)...))), pick(d, "l", "l.1", "l.$[]", "l.$[x]")
			}
			u := made(t, object(verb, object(path, d.operand(verb))), d.filters(path))
			once, changed, e, _ := u.Apply(v, false)
			if e != api.OK {
				continue
			}
			if changed {
				changes++
			}
			twice, changed := applied(t, u, once, false)
			if changed || !jsonval.Equal(once, twice) {
				t.Fatalf("%s at %s of %s: %s and then %s", verb, path, full(v), full(once), full(twice))
			}
		}
		if changes < 150 {
			t.Errorf("%s: few changes: %d", verb, changes)
		}
	}
}

// shuffled is an object with its members in another order.
func (d dice) shuffled(v api.Value) api.Value {
	v = jsonval.Named(v.Names, v.Items...)
	d.Shuffle(len(v.Names), func(i, j int) {
		v.Names[i], v.Names[j], v.Items[i], v.Items[j] = v.Names[j], v.Names[i], v.Items[j], v.Items[i]
	})
	return v
}

// P5.9.
func TestAnyOrderOfTerms(t *testing.T) {
	d := newDice(60)
	taken, refused := 0, map[api.Errno]int{}
	for range 40000 {
		ops, filters := d.update(d.document(4))
		if d.Intn(4) == 0 {
			ops = d.faulty(ops)
		}
		other := d.shuffled(ops)
		for i := range other.Items {
			if other.Items[i].Kind == api.Object {
				other.Items[i] = d.shuffled(other.Items[i])
			}
		}
		_, e, _ := update.Parse(ops, filters)
		_, e2, _ := update.Parse(other, filters)
		if (e == api.OK) != (e2 == api.OK) {
			t.Fatalf("%s: %d; %s: %d", full(ops), e, full(other), e2)
		}
		if e == api.OK {
			taken++
		}
		refused[e]++
	}
	if taken < 5000 || refused[api.ErrClash] < 1000 || refused[api.ErrGive] < 100 {
		t.Error("few:", taken, refused)
	}
}
