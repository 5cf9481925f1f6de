package schema_test

import (
	"slices"
	"sync"
	"testing"

	"docket/api"
	"docket/jsonval"
	"docket/schema"
)

// rounds hands schemas that Parse takes to check.
func rounds(t *testing.T, seed int64, check func(d dice, v api.Value, s *schema.Schema)) {
	t.Helper()
	d, n := newDice(seed), 0
	for range 8000 {
		v := d.schema(2)
		if s, e := schema.Parse(v); e == isOK {
			n++
			check(d, v, s)
		}
	}
	if n < 7000 {
		t.Error("few schemas:", n)
	}
}

// asked is a value, now and then one that is none.
func (d dice) asked() api.Value {
	x := d.value(3)
	if d.one(5) {
		x = d.odd(x)
	}
	return x
}

// P21.5: Check and Fault.
func TestCheckAndFault(t *testing.T) {
	rounds(t, 2151, func(d dice, v api.Value, s *schema.Schema) {
		for range 4 {
			x := d.asked()
			if _, _, broken := s.Fault(x); broken != (s.Check(x) != isOK) {
				t.Fatalf("%s of %s: %v, %d", tell(v), tell(x), broken, s.Check(x))
			}
		}
	})
}

// P21.5: not, allOf and anyOf of schemas, and what these say by themselves.
func TestJoined(t *testing.T) {
	both := map[[2]bool]int{}
	rounds(t, 2152, func(d dice, v api.Value, s *schema.Schema) {
		w := d.schema(2)
		other := made(t, w)
		no, and, or := made(t, one("not", v)), made(t, one("allOf", list(v, w))), made(t, one("anyOf", list(v, w)))
		for range 4 {
			x := d.asked()
			first, second := s.Check(x) == isOK, other.Check(x) == isOK
			both[[2]bool{first, second}]++
			if (no.Check(x) == isOK) == first {
				t.Fatalf("not %s of %s: %v", tell(v), tell(x), first)
			}
			if (and.Check(x) == isOK) != (first && second) || (or.Check(x) == isOK) != (first || second) {
				t.Fatalf("%s %v, %s %v of %s", tell(v), first, tell(w), second, tell(x))
			}
		}
	})
	if len(both) != 4 || both[[2]bool{false, false}] < 100 {
		t.Error(both)
	}
}

// P21.5: another order of the rules, in all schemas that there are.
func TestOrderOfRules(t *testing.T) {
	moved := 0
	rounds(t, 2153, func(d dice, v api.Value, s *schema.Schema) {
		turned := d.turned(v)
		other := made(t, turned)
		for range 4 {
			x := d.asked()
			if s.Check(x) != other.Check(x) {
				t.Fatalf("%s, %s: %d, %d", tell(v), tell(turned), s.Check(x), other.Check(x))
			}
			_, a, _ := s.Fault(x)
			if _, b, _ := other.Fault(x); a != b {
				moved++
			}
		}
	})
	if moved < 50 {
		t.Error(moved, "faults moved")
	}
}

// turned has the rules in another order: what is no schema stays as it is.
func (d dice) turned(v api.Value) api.Value {
	v.Names, v.Items = slices.Clone(v.Names), slices.Clone(v.Items)
	for i, word := range v.Names {
		x := v.Items[i]
		switch word {
		case "items", "not":
			x = d.turned(x)
		case "properties", "anyOf", "allOf":
			x.Items = slices.Clone(x.Items)
			for k := range x.Items {
				x.Items[k] = d.turned(x.Items[k])
			}
		}
		v.Items[i] = x
	}
	d.Shuffle(len(v.Names), func(i, k int) {
		v.Names[i], v.Names[k] = v.Names[k], v.Names[i]
		v.Items[i], v.Items[k] = v.Items[k], v.Items[i]
	})
	return v
}

// P21.6: what properties and items keep does not change with members that they do not name, nor with anything else of the value.
func TestPartsAlone(t *testing.T) {
	kept := map[bool]int{}
	rounds(t, 2161, func(d dice, v api.Value, s *schema.Schema) {
		names := d.members(4, func() api.Value { return d.schema(1) })
		p, each := made(t, one("properties", names)), made(t, one("items", v))
		x := d.members(5, func() api.Value { return d.value(2) })
		all := isOK
		for i, name := range x.Names {
			if k := slices.Index(names.Names, name); k >= 0 && made(t, names.Items[k]).Check(x.Items[i]) != isOK {
				all = isSchema
			}
		}
		kept[all == isOK]++
		more := x
		more.Names, more.Items = append(slices.Clone(x.Names), "more", "d"), append(slices.Clone(x.Items), d.value(2), d.value(2))
		if int(p.Check(x)) != all || int(p.Check(more)) != all {
			t.Fatalf("%s of %s: %d, with more %d", tell(names), tell(x), p.Check(x), p.Check(more))
		}
		l := list(d.values(4, 2)...)
		all = isOK
		for _, item := range l.Items {
			if s.Check(item) != isOK {
				all = isSchema
			}
		}
		if int(each.Check(l)) != all {
			t.Fatalf("items %s of %s: %d", tell(v), tell(l), each.Check(l))
		}
	})
	if min(kept[true], kept[false]) < 500 {
		t.Error(kept)
	}
}

// P21.6: a member that no rule names may be anything, unless additional is false.
func TestOtherMembers(t *testing.T) {
	rounds(t, 2162, func(d dice, v api.Value, s *schema.Schema) {
		if d.one(3) {
			v = one("properties", d.members(4, func() api.Value { return d.schema(1) }))
		}
		open, closed := made(t, v), made(t, object([]string{"additional", "allOf"}, val(`false`), list(v)))
		x := d.members(4, func() api.Value { return d.value(2) })
		more := x
		more.Names, more.Items = append(slices.Clone(x.Names), "more"), append(slices.Clone(x.Items), d.value(2))
		if saysNothing(v) && open.Check(x) != open.Check(more) {
			t.Fatalf("%s of %s and of %s", tell(v), tell(x), tell(more))
		}
		if closed.Check(more) != isSchema { // the properties do not stand beside it
			t.Fatalf("closed %s of %s", tell(v), tell(more))
		}
	})
}

// saysNothing tells whether a schema has just rules that ask nothing of a member that they do not name.
func saysNothing(v api.Value) bool {
	for i, word := range v.Names {
		switch {
		case word == "enum", word == "additional" && v.Items[i].Kind == api.False:
			return false
		case word == "not", word == "anyOf", word == "allOf":
			if !all(schemasOf(word, v.Items[i]), saysNothing) {
				return false
			}
		}
	}
	return true
}

// P21.7: the same answers again and again, to several at once, the answers of a schema that was made anew too.
func TestAskedAtOnce(t *testing.T) {
	text := `{'type':['object','array'],'required':['n'],'properties':{'n':{'type':'int','minimum':1,'divisible':3},'t':{'items':{'anyOf':[{'enum':['x',1]},{'not':{'maxLength':2}}]}}},'additional':false,'items':{'allOf':[{'minItems':1},{'maxItems':2}]}}`
	s, again := made(t, val(text)), made(t, val(text))
	answers := map[string]string{`{'n':3}`: "", `{}`: "required", `{'n':0}`: "n/minimum", `{'n':4}`: "n/divisible", `{'n':3,'t':['x',1,'y']}`: "t/2/anyOf", `{'n':3,'t':['abc']}`: "", `{'n':3,'x':1}`: "additional", `5`: "type", `[[1],[]]`: "1/allOf", `[[1],[1,2]]`: ""}
	var group sync.WaitGroup
	for range 3 {
		for text, want := range answers {
			v := val(text)
			group.Go(func() {
				for range 300 {
					for _, x := range []*schema.Schema{s, again} {
						where, word, broken := x.Fault(v)
						if tellFault(where, word, broken) != want || (x.Check(v) == isOK) != (want == "") || x.Rules() != 16 {
							t.Error(text, where, word, x.Rules())
							return
						}
					}
				}
			})
		}
	}
	group.Wait()
}

// Rule 3: what is handed in is as it was, spare room too.
func TestNothingHandedInIsWritten(t *testing.T) {
	rounds(t, 2171, func(d dice, v api.Value, _ *schema.Schema) {
		x := d.asked()
		v.Names, v.Items = append(v.Names, "spare")[:len(v.Names)], append(v.Items, jsonval.Of(99))[:len(v.Items)]
		x.Names, x.Items = append(x.Names, "spare")[:len(x.Names)], append(x.Items, jsonval.Of(99))[:len(x.Items)]
		seen := func() string {
			return tell(v) + tell(x) + tell(object(v.Names[:cap(v.Names)], v.Items[:cap(v.Items)]...)) + tell(object(x.Names[:cap(x.Names)], x.Items[:cap(x.Items)]...))
		}
		before := seen()
		s := made(t, v)
		s.Check(x)
		s.Fault(x)
		if seen() != before {
			t.Fatalf("%s: now %s", before, seen())
		}
	})
}

// Rule 3: where is a list of its own each time, spare room too.
func TestAnswersShareNothing(t *testing.T) {
	s, v := made(t, val(`{'properties':{'a':{'items':{'items':{'type':'int'}}}}}`)), val(`{'a':[[1],[1,'x']]}`)
	for range 3 {
		where, word, broken := s.Fault(v)
		if tellFault(where, word, broken) != "a/1/1/type" {
			t.Fatalf("%q %q %v", where, word, broken)
		}
		where = where[:cap(where)]
		for i := range where {
			where[i] = "spoilt"
		}
	}
}
