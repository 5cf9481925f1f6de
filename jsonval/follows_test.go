package jsonval_test

import (
	"testing"

	"docket/api"
	"docket/jsonval"
)

func TestThereAndBack(t *testing.T) {
	d := newDice(2)
	for range 5000 {
		v := d.value(4)
		text, e := jsonval.Print(v)
		if e != api.OK {
			t.Fatalf("Print(%v): %d", v, e)
		}
		if size := jsonval.Size(v); size != len(text) {
			t.Fatalf("Size of %q: %d", text, size)
		}
		if back := parsed(t, text); !jsonval.Equal(back, v) {
			t.Fatalf("%q is read as %v, of %v", text, back, v)
		}
	}
}

func TestBackAndThere(t *testing.T) {
	d := newDice(3)
	read := 0
	for range 20000 {
		text, _ := jsonval.Print(d.value(3))
		text = d.spoilt(text)
		v, e, _ := jsonval.Parse(text)
		if e != api.OK {
			continue
		}
		read++
		again, e := jsonval.Print(v)
		if e != api.OK || !jsonval.Equal(parsed(t, again), v) {
			t.Fatalf("%q, printed: %q, %d", text, again, e)
		}
	}
	if read < 100 {
		t.Errorf("only %d texts were read", read)
	}
}

func TestOneForm(t *testing.T) {
	d := newDice(4)
	had := map[string]api.Value{}
	for range 20000 {
		v := d.value(2)
		text, e := jsonval.Print(v)
		if e != api.OK {
			t.Fatalf("Print(%v): %d", v, e)
		}
		if other, there := had[text]; there && !jsonval.Equal(v, other) {
			t.Fatalf("%v and %v both say %q", v, other, text)
		}
		had[text] = v
	}
}

func TestFirstFault(t *testing.T) {
	d := newDice(5)
	seen := map[api.Errno]int{}
	for range 20000 {
		text, _ := jsonval.Print(d.value(3))
		text = d.spoilt(text)
		_, e, at := jsonval.Parse(text)
		seen[e]++
		if e == api.OK {
			continue
		}
		if e == api.ErrShort && at != len(text) {
			t.Fatalf("%q: ErrShort at %d", text, at)
		}
		if _, ahead, _ := jsonval.Parse(text[:at]); ahead != api.OK && ahead != api.ErrShort {
			t.Fatalf("%q: %d at %d, but %d ahead of it", text, e, at, ahead)
		}
	}
	for _, e := range []api.Errno{api.OK, api.ErrShort, api.ErrTail, api.ErrToken, api.ErrText, api.ErrEscape, api.ErrUtf, api.ErrInt, api.ErrRange} {
		if seen[e] == 0 {
			t.Errorf("no text with %d", e)
		}
	}
}

// TestFirstFaultEverywhere cuts good texts at each place: what is left has no fault but its end.
func TestFirstFaultEverywhere(t *testing.T) {
	for _, text := range []string{
		" { \"a\" : [ 1 , -20 , true , false , null ] , \"\\u00e9\u00e9\" : { } } ",
		`["\ud83d\ude00\"\\\/\b\f\n\r\t",` + "\"\u00e9\u20ac\U0001f600\"]",
	} {
		parsed(t, text)
		for n := range len(text) {
			if _, e, at := jsonval.Parse(text[:n]); e != api.OK && (e != api.ErrShort || at != n) {
				t.Errorf("%q: %d at %d", text[:n], e, at)
			}
		}
	}
}
