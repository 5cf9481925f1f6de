package watch_test

import (
	"math"
	"slices"
	"strconv"
	"strings"
	"testing"

	"docket/api"
	"docket/watch"
)

// lists reads some from a text as "1 2, 1 3": a list ahead of each comma, of changes with these stamps. Each bears its list's number and its own as Id.
func lists(text string) [][]api.Change {
	var all [][]api.Change
	for i, part := range strings.Split(text, ",") {
		var l []api.Change
		for k, word := range strings.Fields(part) {
			stamp, _ := strconv.ParseInt(word, 10, 64)
			l = append(l, api.Change{Stamp: stamp, In: "c", Id: string(rune('a'+i)) + strconv.Itoa(k), Kind: 1 + k%3})
		}
		all = append(all, l)
	}
	return all
}

// P18.5.
func TestMerge(t *testing.T) {
	for _, c := range []struct{ lists, want string }{
		{"", ""}, {",,", ""},
		{"1 2, 1 3", "a0 b0 a1 b1"}, // the chapter's example
		{"1 3, 1 2", "a0 b0 b1 a1"},
		{"1 2 3", "a0 a1 a2"},
		{",1,,2,", "b0 d0"},
		{"2,1", "b0 a0"},
		{"1 1,1 1,1", "a0 a1 b0 b1 c0"},
		{"3,2,1", "c0 b0 a0"},
		{"1 4 7,2 5 8,3 6 9", "a0 b0 c0 a1 b1 c1 a2 b2 c2"},
		{"5 5,4 5 6,5,5 6", "b0 a0 a1 b1 c0 d0 b2 d1"},
		{"-1 0,-2 0 1", "b0 a0 a1 b1 b2"},
		{"9223372036854775807,-9223372036854775808 9223372036854775807,0", "b0 c0 a0 b1"},
		// Stamps that fall: what stands behind a greater one comes right behind it.
		{"5 1,3 6", "b0 a0 a1 b1"},
		{"5 1,5", "a0 a1 b0"},
		{"5,5 1", "a0 b0 b1"},
		{"3 2 1", "a0 a1 a2"},
		{"3 2 1,2 3", "b0 a0 a1 a2 b1"},
		{"4 1,4 4,2 9,4 0", "c0 a0 a1 b0 b1 d0 d1 c1"},
	} {
		if got := strings.Join(idsOf(watch.Merge(lists(c.lists)...)), " "); got != c.want {
			t.Errorf("Merge(%s): %s, not %s", c.lists, got, c.want)
		}
	}
	if got := watch.Merge(); len(got) != 0 {
		t.Error(got)
	}
	if got := watch.Merge(nil, []api.Change{}, nil); len(got) != 0 {
		t.Error(got)
	}
}

func idsOf(l []api.Change) []string {
	var all []string
	for _, c := range l {
		all = append(all, c.Id)
	}
	return all
}

// P18.5: each as it is, whatever it says.
func TestMergeKeepsChanges(t *testing.T) {
	a := []api.Change{{Stamp: -3, In: "c", Id: "x", Kind: 3}, {Stamp: 0}, {Stamp: 4, In: "\xff", Id: "", Kind: -1}}
	b := []api.Change{{Stamp: math.MinInt64, Kind: 99}, {Stamp: 0, In: "d", Id: "y", Kind: 1}, {Stamp: math.MaxInt64, In: "d"}}
	want := []api.Change{b[0], a[0], a[1], b[1], a[2], b[2]}
	if got := watch.Merge(a, b); !slices.Equal(got, want) {
		t.Errorf("%v, not %v", got, want)
	}
}

// P18.5, against the words: lists of all kinds, of up to many.
func TestMergeAsTheWordsSay(t *testing.T) {
	d := newDice(182)
	for range 6000 {
		var all [][]api.Change
		for range d.Intn(pick(d, 2, 4, 9, 40)) {
			all = append(all, d.changes(pick(d, 1, 4, 12)))
		}
		if d.Intn(2) == 0 {
			for _, l := range all {
				slices.SortStableFunc(l, func(a, b api.Change) int { return int(a.Stamp - b.Stamp) })
			}
		}
		mark(all)
		if got, want := watch.Merge(all...), mergeByWords(all); !slices.Equal(got, want) {
			t.Fatalf("Merge: %s, not %s", text(got), text(want))
		}
	}
}

// mark gives each change an Id of its own: its list, and its place there.
func mark(all [][]api.Change) {
	for i, l := range all {
		for k := range l {
			l[k].Id = strconv.Itoa(i) + "." + strconv.Itoa(k)
		}
	}
}

// P18.10: of lists whose stamps rise all their changes, with stamps that never fall; of one list that list.
func TestMergeOfRisingLists(t *testing.T) {
	d := newDice(183)
	for range 2000 {
		var all [][]api.Change
		for range 1 + d.Intn(8) {
			l, stamp := []api.Change{}, int64(d.Intn(5))-2
			for range d.Intn(9) {
				stamp += int64(d.Intn(3))
				c := d.change()
				c.Stamp = stamp
				l = append(l, c)
			}
			all = append(all, l)
		}
		mark(all)
		got := watch.Merge(all...)
		if !slices.IsSortedFunc(got, func(a, b api.Change) int { return int(a.Stamp - b.Stamp) }) {
			t.Fatalf("%s: stamps fall", text(got))
		}
		had := idsOf(slices.Concat(all...))
		told := idsOf(got)
		slices.Sort(had)
		slices.Sort(told)
		if !slices.Equal(had, told) {
			t.Fatalf("%q, not %q", told, had)
		}
	}
	for range 500 {
		one := d.changes(20) // its stamps rise and fall
		if got := watch.Merge(one); !slices.Equal(got, one) {
			t.Fatalf("%s, not %s", text(got), text(one))
		}
		if got := watch.Merge(nil, one, nil); !slices.Equal(got, one) {
			t.Fatalf("%s, not %s", text(got), text(one))
		}
	}
}

// Many lists are merged in little time.
func TestMergeOfManyLists(t *testing.T) {
	const n = 100000
	all := make([][]api.Change, n)
	for i := range all {
		all[i] = []api.Change{{Stamp: int64(n - i), Kind: i}}
	}
	got := watch.Merge(all...)
	if len(got) != n {
		t.Fatal(len(got))
	}
	for i, c := range got {
		if c.Stamp != int64(i+1) || c.Kind != n-1-i {
			t.Fatal(i, c)
		}
	}
}

// P7, as far as it is of this layer: what several logs tell of their collections is, merged, what one log of all tells.
func TestMergeOfLogs(t *testing.T) {
	d := newDice(184)
	for range 500 {
		l := fresh(t, 100)
		for stamp := range int64(12) {
			l = l.With(stamp, d.changes(2)...)
		}
		all, _, _ := l.After(0, 0, "")
		var parts [][]api.Change
		for _, in := range []string{"c", "d", "e"} {
			part, _, _ := l.After(0, 0, in)
			parts = append(parts, part)
		}
		all = slices.DeleteFunc(all, func(c api.Change) bool { return c.In == "" })
		got := watch.Merge(parts...)
		byIn := func(a, b api.Change) int {
			if a.Stamp != b.Stamp {
				return int(a.Stamp - b.Stamp)
			}
			return strings.Compare(a.In, b.In)
		}
		slices.SortStableFunc(all, byIn)
		if !slices.Equal(got, all) {
			t.Fatalf("%s, not %s", text(got), text(all))
		}
	}
}
