package dotpath_test

import (
	"slices"
	"strings"
	"testing"

	"docket/api"
	"docket/dotpath"
)

func many(n int, segment string) string {
	return strings.Repeat(segment+".", n-1) + segment
}

// P2.1, P2.2.
func TestPathsAreReadAndWritten(t *testing.T) {
	longest := strings.Repeat("x", api.MaxSegment)
	for _, text := range []string{
		"a", "a.b.0", "0", "a$.b$c", " ", "a b.\x00.\xff", "\u20ac.\"", "-1.00", longest,
		many(api.MaxSegments, "a"), many(api.MaxSegments, longest),
	} {
		path, e, at := dotpath.Parse(text)
		if e != api.OK || at != 0 || !slices.Equal(path, strings.Split(text, ".")) {
			t.Errorf("Parse(%q): %q, %d at %d", text, path, e, at)
		}
		back, e := dotpath.Print(path)
		if e != api.OK || back != text {
			t.Errorf("Print(%q): %q, %d", path, back, e)
		}
	}
}

// P2.1.
func TestTextsThatAreNoPath(t *testing.T) {
	long := strings.Repeat("x", api.MaxSegment+1)
	for _, c := range []struct {
		text  string
		place int
	}{
		{"", 0}, {".", 0}, {"a.", 2}, {".a", 0}, {"a..b", 2}, {"ab.cd..", 6},
		{"$", 0}, {"$a", 0}, {"a.$b", 2}, {"a.b.$", 4}, {"a.$b..c", 2}, {"..$", 0},
		{long, 0}, {"a." + long, 2}, {"a." + long + ".$", 2}, {"$." + long, 0},
		{strings.Repeat("\u20ac", 22), 0},
		{many(api.MaxSegments+1, "a"), 2 * api.MaxSegments},
		{many(api.MaxSegments+5, "ab"), 3 * api.MaxSegments},
		{many(api.MaxSegments, "a") + ".", 2 * api.MaxSegments},
		{many(api.MaxSegments, "a") + ".$", 2 * api.MaxSegments},
		{many(api.MaxSegments-1, "a") + ".$.a.a", 2*api.MaxSegments - 2},
		{many(3, "a") + "." + long + "." + many(20, "a"), 6},
	} {
		path, e, at := dotpath.Parse(c.text)
		if path != nil || e != api.ErrPath || at != c.place {
			t.Errorf("Parse(%q): %q, %d at %d, want %d at %d", c.text, path, e, at, api.ErrPath, c.place)
		}
	}
}

// P2.1: what is answered is new each time.
func TestParseAnswersAListOfItsOwn(t *testing.T) {
	first, _, _ := dotpath.Parse("a.b.c")
	second, _, _ := dotpath.Parse("a.b.c")
	first[0] = "x"
	_ = append(first[:1], "y")
	if !slices.Equal(second, []string{"a", "b", "c"}) {
		t.Errorf("the second answer is %q", second)
	}
}

// P2.2.
func TestListsThatAreNoPath(t *testing.T) {
	long := strings.Repeat("x", api.MaxSegment+1)
	for _, path := range [][]string{
		nil, {}, {""}, {"a", ""}, {"", "a"}, {"$"}, {"$a"}, {"a", "$b"}, {"a.b"}, {"."}, {"a", "b."}, {"a", ".b", "c"},
		{long}, {"a", long}, slices.Repeat([]string{"a"}, api.MaxSegments+1),
	} {
		if text, e := dotpath.Print(path); text != "" || e != api.ErrPath {
			t.Errorf("Print(%q): %q, %d", path, text, e)
		}
	}
}

// P2.3.
func TestIndex(t *testing.T) {
	for _, c := range []struct {
		segment string
		number  int
		ok      bool
	}{
		{"0", 0, true}, {"1", 1, true}, {"9", 9, true}, {"10", 10, true}, {"907", 907, true},
		{"123456789", 123456789, true}, {"999999999", 999999999, true}, {"100000000", 100000000, true},
		{"1234567890", 0, false}, {"1000000000", 0, false}, {"99999999999999999999", 0, false},
		{"", 0, false}, {"00", 0, false}, {"01", 0, false}, {"000000000", 0, false},
		{"-1", 0, false}, {"+1", 0, false}, {"-0", 0, false}, {"1a", 0, false}, {"a1", 0, false}, {" 1", 0, false}, {"1 ", 0, false},
		{"1_0", 0, false}, {"0x1", 0, false}, {"1/", 0, false}, {"1:", 0, false}, {"/", 0, false}, {":", 0, false},
		{"\u0661", 0, false}, {"1\x00", 0, false}, {"1.0", 0, false},
	} {
		if number, ok := dotpath.Index(c.segment); number != c.number || ok != c.ok {
			t.Errorf("Index(%q): %d, %v", c.segment, number, ok)
		}
	}
}

// P2.8.
func TestClash(t *testing.T) {
	for _, c := range []struct {
		a, b string
		want bool
	}{
		{"a.b", "a.b.c", true}, {"a.b", "a.bc", false}, {"a", "a", true}, {"a.b.c", "a.b.c", true},
		{"a", "b", false}, {"a.b", "a.c", false}, {"a.b", "b.a", false}, {"a.b.c", "a.x.c", false},
		{"a", "a.b.c", true}, {"b", "a.b", false}, {"", "a", true}, {"", "", true}, {"0", "00", false},
	} {
		for _, pair := range [][2]string{{c.a, c.b}, {c.b, c.a}} {
			if got := dotpath.Clash(segments(pair[0]), segments(pair[1])); got != c.want {
				t.Errorf("Clash(%q, %q): %v", pair[0], pair[1], got)
			}
		}
	}
	if dotpath.Clash([]string{"a.b"}, []string{"a", "b"}) {
		t.Error("a segment with a dot is taken for two")
	}
}

// P2.8.
func TestClashes(t *testing.T) {
	for _, c := range []struct {
		paths []string
		first int
		ok    bool
	}{
		{nil, 0, false}, {[]string{"a"}, 0, false}, {[]string{""}, 0, false}, {[]string{"a", "b"}, 0, false},
		{[]string{"a", "b", "a.c"}, 2, true}, {[]string{"a.c", "b", "a"}, 2, true}, {[]string{"a", "a"}, 1, true},
		{[]string{"a", "a.b", "a"}, 1, true}, {[]string{"", ""}, 1, true}, {[]string{"a", ""}, 1, true}, {[]string{"", "a"}, 1, true},
		{[]string{"a.b.c", "a.b.d", "a.c", "b", "a.b"}, 4, true}, {[]string{"a.b.c", "a.b.d", "a.c", "b", "a.b.d.e"}, 4, true},
		{[]string{"a.b.c", "a.b.d", "a.bc", "b", "a.c.d", "c.b", "b0"}, 0, false},
		{[]string{"x.a", "y.a", "x.b", "y.b", "y.a"}, 4, true},
	} {
		var paths [][]string
		for _, text := range c.paths {
			paths = append(paths, segments(text))
		}
		if first, ok := dotpath.Clashes(paths); first != c.first || ok != c.ok {
			t.Errorf("Clashes(%q): %d, %v", c.paths, first, ok)
		}
	}
}

// P2.8: Clashes is what Clash says of each pair.
func TestClashesByPairs(t *testing.T) {
	d := newDice(1)
	for range 5000 {
		var paths [][]string
		for range d.Intn(6) {
			paths = append(paths, append([]string{d.segment()}, d.path(3)...))
		}
		first, ok := 0, false
		for i, path := range paths {
			if slices.ContainsFunc(paths[:i], func(ahead []string) bool { return dotpath.Clash(ahead, path) }) {
				first, ok = i, true
				break
			}
		}
		if gotFirst, gotOk := dotpath.Clashes(paths); gotFirst != first || gotOk != ok {
			t.Fatalf("Clashes(%q): %d, %v, want %d, %v", paths, gotFirst, gotOk, first, ok)
		}
	}
}
