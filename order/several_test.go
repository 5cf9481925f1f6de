package order_test

import (
	"strings"
	"testing"

	"docket/api"
	"docket/jsonval"
	"docket/order"
)

func parsedAll(t *testing.T, texts ...string) []api.Value {
	t.Helper()
	var items []api.Value
	for _, text := range texts {
		items = append(items, parsed(t, text))
	}
	return items
}

// P3.5.
func TestLeastAndGreatest(t *testing.T) {
	for _, c := range []struct {
		items           string
		least, greatest int
	}{
		{"1", 0, 0}, {"5 1 1", 1, 0}, {"5 7 7", 0, 1}, {"3 3 3", 0, 0}, {"1 2 3", 0, 2}, {"3 2 1", 2, 0}, {"2 1 3 1 3", 1, 2},
		{`true false [] {} "" 0 null`, 6, 0}, {`null 0 "" {} [] false true`, 0, 6}, {`[2] [1,5] [1] [2,0]`, 2, 3}, {"false null true null true", 1, 2},
	} {
		items := parsedAll(t, strings.Fields(c.items)...)
		if n, ok := order.Least(items...); n != c.least || !ok {
			t.Errorf("Least(%s): %d, %v, want %d", c.items, n, ok, c.least)
		}
		if n, ok := order.Greatest(items...); n != c.greatest || !ok {
			t.Errorf("Greatest(%s): %d, %v, want %d", c.items, n, ok, c.greatest)
		}
	}
	if n, ok := order.Least(); n != 0 || ok {
		t.Errorf("Least of none: %d, %v", n, ok)
	}
	if n, ok := order.Greatest(); n != 0 || ok {
		t.Errorf("Greatest of none: %d, %v", n, ok)
	}
}

// P3.5: Values that are none stand ahead of all others, and are alike.
func TestLeastAndGreatestOfOddValues(t *testing.T) {
	none, other, null := api.Value{Kind: 7, Int: 1}, api.Value{Kind: -1, Text: "x"}, api.Value{}
	if n, ok := order.Least(null, other, none); n != 1 || !ok {
		t.Errorf("Least: %d, %v", n, ok)
	}
	if n, ok := order.Greatest(none, other); n != 0 || !ok {
		t.Errorf("Greatest of Values that are none: %d, %v", n, ok)
	}
	if n, ok := order.Greatest(none, null, other); n != 1 || !ok {
		t.Errorf("Greatest: %d, %v", n, ok)
	}
}

// P3.5, as its words say it: each item is held against all others.
func TestLeastAndGreatestAgainstTheirWords(t *testing.T) {
	d := newDice(4)
	ahead := func(items []api.Value, i int, way int) bool {
		for _, item := range items {
			if order.Compare(item, items[i]) == way {
				return true
			}
		}
		return false
	}
	for range 2000 {
		items := d.items(9)
		least, greatest := 0, 0
		for least < len(items) && ahead(items, least, -1) {
			least++
		}
		for greatest < len(items) && ahead(items, greatest, 1) {
			greatest++
		}
		if n, ok := order.Least(items...); n != least || ok != (len(items) > 0) {
			t.Fatalf("Least(%s): %d, %v, want %d", full(jsonval.Listed(items...)), n, ok, least)
		}
		if n, ok := order.Greatest(items...); n != greatest || ok != (len(items) > 0) {
			t.Fatalf("Greatest(%s): %d, %v, want %d", full(jsonval.Listed(items...)), n, ok, greatest)
		}
	}
}

// items are up to most values, many of them alike.
func (d dice) items(most int) []api.Value {
	var items []api.Value
	for range d.Intn(most + 1) {
		if d.Intn(2) == 0 {
			items = append(items, d.value(2))
		} else {
			items = append(items, jsonval.Of(int64(d.Intn(3))))
		}
	}
	return items
}

// P3.5.
func TestSort(t *testing.T) {
	for _, c := range []struct{ items, want string }{
		{"", "[]"}, {"1", "[1]"}, {"true 1 null", "[null,1,true]"}, {"3 1 2 1", "[1,1,2,3]"},
		{`true false [1] [] {"a":1} {} "b" "" 5 -5 null`, `[null,-5,5,"","b",{},{"a":1},[],[1],false,true]`},
	} {
		sorted := order.Sort(parsedAll(t, strings.Fields(c.items)...))
		if text, e := jsonval.Print(jsonval.Listed(sorted...)); e != api.OK || text != c.want {
			t.Errorf("Sort(%s): %s, %d, want %s", c.items, text, e, c.want)
		}
	}
	if sorted := order.Sort(nil); len(sorted) != 0 {
		t.Errorf("Sort of none: %v", sorted)
	}
}

// P3.5: alike ones in the order in which they were; Values that are none tell which they are.
func TestSortLeavesAlikeOnes(t *testing.T) {
	d := newDice(5)
	for _, many := range []int{2, 11, 12, 13, 40, 1000} {
		var items []api.Value
		for i := range many {
			kind := []int{api.Null, api.True, 7, -1, api.Text}[d.Intn(5)]
			items = append(items, api.Value{Kind: kind, Int: int64(i)})
		}
		sorted := order.Sort(items)
		if len(sorted) != many {
			t.Fatalf("Sort of %d: %d", many, len(sorted))
		}
		for i := range many - 1 {
			a, b := sorted[i], sorted[i+1]
			if c := order.Compare(a, b); c > 0 || c == 0 && a.Int >= b.Int {
				t.Fatalf("Sort of %d: %s ahead of %s", many, full(a), full(b))
			}
		}
	}
}

// P3.5: a new list, and what was handed in is as it was.
func TestSortMakesANewList(t *testing.T) {
	room := append(parsedAll(t, "3", "1", "2"), parsed(t, "0"))
	before := full(jsonval.Listed(room...))
	sorted, again := order.Sort(room[:3]), order.Sort(room[:3])
	if after := full(jsonval.Listed(room...)); after != before {
		t.Errorf("Sort has changed what it was handed: %s", after)
	}
	clear(sorted[:cap(sorted)])
	if after := full(jsonval.Listed(room...)); after != before {
		t.Errorf("Sort's answer lies in what it was handed: %s", after)
	}
	if told := full(jsonval.Listed(again...)); told != full(parsed(t, "[1,2,3]")) {
		t.Errorf("two answers of Sort share memory: %s", told)
	}
	inOrder := parsedAll(t, "1", "2")
	clear(order.Sort(inOrder))
	if told := full(jsonval.Listed(inOrder...)); told != full(parsed(t, "[1,2]")) {
		t.Errorf("Sort's answer is what it was handed: %s", told)
	}
}
