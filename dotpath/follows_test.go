package dotpath_test

import (
	"slices"
	"testing"

	"docket/api"
	"docket/dotpath"
	"docket/jsonval"
)

// same holds that Get has the same in both values at each path of either that does not clash with any of but.
func same(t *testing.T, v, w api.Value, but ...[]string) {
	t.Helper()
	for _, one := range []api.Value{v, w} {
		for path := range dotpath.Walk(one) {
			if slices.ContainsFunc(but, func(other []string) bool { return dotpath.Clash(path, other) }) {
				continue
			}
			x, inV := dotpath.Get(v, path)
			y, inW := dotpath.Get(w, path)
			if inV != inW || !jsonval.Equal(x, y) {
				t.Fatalf("at %q: %v, %v in one, %v, %v in the other", path, x, inV, y, inW)
			}
		}
	}
}

// P2.10.
func TestBehindASet(t *testing.T) {
	d := newDice(5)
	held, refused := 0, 0
	for range 10000 {
		v, x := d.value(4), d.value(2)
		path := d.inside(v)
		w, e := dotpath.Set(v, path, x)
		if e != api.OK {
			refused++
			if e != api.ErrCross && e != api.ErrIndex || !isZero(w) {
				t.Fatalf("Set(%s, %q): %v, %d", full(v), path, w, e)
			}
			continue
		}
		held++
		if y, there := dotpath.Get(w, path); !there || !jsonval.Equal(x, y) {
			t.Fatalf("Get behind Set(%s, %q): %v, %v", full(v), path, y, there)
		}
		same(t, v, w, path)
	}
	if held < 1000 || refused < 1000 {
		t.Errorf("%d were OK and %d not: that says little", held, refused)
	}
}

// P2.10: Set of what Get answers.
func TestSetOfWhatStandsThere(t *testing.T) {
	d := newDice(6)
	for range 10000 {
		v := d.value(4)
		path := d.inside(v)
		x, there := dotpath.Get(v, path)
		if !there {
			continue
		}
		if w, e := dotpath.Set(v, path, x); e != api.OK || !jsonval.Equal(v, w) {
			t.Fatalf("Set(%s, %q) of what stands there: %v, %d", full(v), path, w, e)
		}
	}
}

// P2.11.
func TestTwoSets(t *testing.T) {
	d := newDice(7)
	held := 0
	for range 20000 {
		v, x, y := d.value(4), d.value(2), d.value(2)
		p, q := d.inside(v), d.inside(v)
		if dotpath.Clash(p, q) {
			continue
		}
		first, e1 := dotpath.Set(v, p, x)
		second, e2 := dotpath.Set(v, q, y)
		if e1 != api.OK || e2 != api.OK {
			continue
		}
		one, e3 := dotpath.Set(first, q, y)
		other, e4 := dotpath.Set(second, p, x)
		if e3 != api.OK || e4 != api.OK {
			continue
		}
		held++
		// Both may be laid in one new object, whose members lie in the order of the Sets: only there may a Get differ, and in the order alone.
		for path := range dotpath.Walk(one) {
			a, inOne := dotpath.Get(one, path)
			b, inOther := dotpath.Get(other, path)
			if !inOne || !inOther || sorted(t, a) != sorted(t, b) {
				t.Fatalf("at %q: %v, %v", path, a, b)
			}
		}
		if parts(one) != parts(other) {
			t.Fatalf("Set(%s) at %q and %q", full(v), p, q)
		}
	}
	if held < 1000 {
		t.Errorf("only %d pairs were OK", held)
	}
}

// sorted tells a value with the members of its objects in the order of their names.
func sorted(t *testing.T, v api.Value) string {
	t.Helper()
	told := ""
	var lines []string
	for i, item := range v.Items {
		if v.Kind == api.Object {
			lines = append(lines, v.Names[i]+":"+sorted(t, item))
		} else {
			told += sorted(t, item) + ","
		}
	}
	slices.Sort(lines)
	v.Names, v.Items = nil, nil
	return full(v) + "<" + told + ">" + "{" + full(jsonval.Named(lines)) + "}"
}

// P2.12.
func TestBehindAnUnset(t *testing.T) {
	d := newDice(8)
	held := 0
	for range 10000 {
		v := d.value(4)
		path := d.inside(v)
		_, there := dotpath.Get(v, path)
		w, ok := dotpath.Unset(v, path)
		if ok != (there && len(path) > 0) {
			t.Fatalf("Unset(%s, %q): %v", full(v), path, ok)
		}
		if !ok {
			if full(v) != full(w) {
				t.Fatalf("Unset(%s, %q): %s and false", full(v), path, full(w))
			}
			continue
		}
		held++
		same(t, v, w, path)
		above, _ := dotpath.Get(v, path[:len(path)-1])
		left, _ := dotpath.Get(w, path[:len(path)-1])
		x, there := dotpath.Get(w, path)
		if above.Kind == api.List {
			if !there || !isZero(x) || len(left.Items) != len(above.Items) {
				t.Fatalf("behind Unset(%s, %q): %v, %v", full(v), path, x, there)
			}
		} else if there || len(left.Items) != len(above.Items)-1 || len(left.Names) != len(left.Items) {
			t.Fatalf("behind Unset(%s, %q): %v, %v", full(v), path, x, there)
		}
	}
	if held < 1000 {
		t.Errorf("only %d were true", held)
	}
}

// meetsAList tells whether the way meets a list by a segment that is no index.
func meetsAList(v api.Value, path []string) bool {
	for n, segment := range path {
		at, there := dotpath.Get(v, path[:n])
		if _, number := dotpath.Index(segment); there && at.Kind == api.List && !number {
			return true
		}
	}
	return false
}

// P2.13.
func TestAllIsGetWithoutLists(t *testing.T) {
	d := newDice(9)
	found, none := 0, 0
	for range 10000 {
		v := d.value(4)
		path := d.inside(v)
		if meetsAList(v, path) {
			continue
		}
		var want []api.Value
		if x, there := dotpath.Get(v, path); there {
			want = append(want, x)
			found++
		} else {
			none++
		}
		if all := dotpath.All(v, path); !slices.EqualFunc(all, want, jsonval.Equal) {
			t.Fatalf("All(%s, %q): %v, want %v", full(v), path, all, want)
		}
	}
	if found < 1000 || none < 1000 {
		t.Errorf("%d were found and %d not: that says little", found, none)
	}
}
