package ident_test

import (
	"strings"
	"testing"

	"docket/ident"
)

// P8.1.
func TestIds(t *testing.T) {
	for s, want := range map[string]bool{
		"a":                       true,
		"Z":                       true,
		"0":                       true,
		"!":                       true, // 33
		"~":                       true, // 126
		"/":                       true,
		"x/y":                     true,
		`{"a":1}`:                 true,
		strings.Repeat("a", 63):   true,
		strings.Repeat("~", 64):   true,
		"":                        false,
		" ":                       false, // 32
		"a b":                     false,
		" a":                      false,
		"a ":                      false,
		"\x7f":                    false, // 127
		"a\x7f":                   false,
		"\x80":                    false,
		"\xff":                    false,
		"\x00":                    false,
		"a\n":                     false,
		"\t":                      false,
		"é":                       false,
		strings.Repeat("a", 65):   false,
		strings.Repeat("a", 1000): false,
	} {
		if ident.Id(s) != want {
			t.Errorf("Id(%q): %t", s, !want)
		}
	}
}

// P8.1.
func TestNames(t *testing.T) {
	for s, want := range map[string]bool{
		"a":                       true,
		"z":                       true,
		"m":                       true,
		"a-1":                     true,
		"a.b_c":                   true,
		"a09":                     true,
		"a..":                     true,
		"a-":                      true,
		"z_":                      true,
		strings.Repeat("z", 31):   true,
		strings.Repeat("a", 32):   true,
		"a" + dots(31):            true,
		"":                        false,
		"A":                       false,
		"aB":                      false,
		"1a":                      false,
		"-a":                      false,
		"_a":                      false,
		".a":                      false,
		"a/b":                     false,
		"a b":                     false,
		" a":                      false,
		"a\n":                     false,
		"a+":                      false,
		"a:":                      false,
		"a`":                      false, // ahead of a
		"a{":                      false, // behind z
		"`":                       false,
		"{":                       false,
		"a\x00":                   false,
		"aé":                      false,
		"ä":                       false,
		strings.Repeat("a", 33):   false,
		"a" + dots(32):            false,
		strings.Repeat("a", 1000): false,
	} {
		if ident.Name(s) != want {
			t.Errorf("Name(%q): %t", s, !want)
		}
	}
}

func dots(n int) string { return strings.Repeat(".", n) }

// P8.1, at every byte in every place of texts of several lengths, those at the limits too.
func TestEveryByteOfIdsAndNames(t *testing.T) {
	ids, names := 0, 0
	for _, long := range []int{1, 2, 3, 5, 31, 32, 33, 63, 64, 65} {
		for at := range long {
			for b := range 256 {
				s := strings.Repeat("q", at) + string([]byte{byte(b)}) + strings.Repeat("q", long-1-at)
				ids += holdId(t, s)
				names += holdName(t, s)
			}
		}
	}
	if ids != (1+2+3+5+31+32+33+63+64)*94 {
		t.Errorf("%d ids", ids)
	}
	if lengths := 1 + 2 + 3 + 5 + 31 + 32; names != (lengths-6)*39+6*26 {
		t.Errorf("%d names", names)
	}
}

// holdId is how many ids it was.
func holdId(t *testing.T, s string) int {
	t.Helper()
	return hold(t, "Id", s, ident.Id(s), wordsId.MatchString(s))
}

func holdName(t *testing.T, s string) int {
	t.Helper()
	return hold(t, "Name", s, ident.Name(s), wordsName.MatchString(s))
}

func hold(t *testing.T, what, s string, got, want bool) int {
	t.Helper()
	if got != want {
		t.Fatalf("%s(%q): %t", what, s, got)
	}
	if got {
		return 1
	}
	return 0
}

// P8.2: Join asks nothing of what it joins.
func TestJoin(t *testing.T) {
	for _, c := range [][3]string{
		{"c", "x", "c/x"},
		{"c", "x/y", "c/x/y"},
		{"c", "/", "c//"},
		{"", "", "/"},
		{"C", "", "C/"},
		{"", "x", "/x"},
		{"a/b", "c", "a/b/c"},
		{"\xff\x00", " ", "\xff\x00/ "},
	} {
		if key := ident.Join(c[0], c[1]); key != c[2] {
			t.Errorf("Join(%q, %q): %q", c[0], c[1], key)
		}
	}
}

// P8.2.
func TestPart(t *testing.T) {
	name, id := strings.Repeat("n", 32), strings.Repeat("i", 64)
	for _, c := range [][3]string{
		{"c/x", "c", "x"},
		{"c/x/y", "c", "x/y"},
		{"c//", "c", "/"},
		{"c//x", "c", "/x"},
		{"c/////", "c", "////"},
		{"a.b/~", "a.b", "~"},
		{name + "/" + id, name, id},
	} {
		if in, id, ok := ident.Part(c[0]); in != c[1] || id != c[2] || !ok {
			t.Errorf("Part(%q): %q, %q, %t", c[0], in, id, ok)
		}
	}
}

// P8.2: where one of the two is not what it must be, nothing is told.
func TestNoPart(t *testing.T) {
	for _, key := range []string{
		"", "c", "/", "c/", "/x", "//x", "C/x", "1/x", "c d/x", "c/x y", "c/\x7f", "c /x", " c/x", "c/x\n", "c\\x",
		strings.Repeat("n", 33) + "/x",
		"c/" + strings.Repeat("i", 65),
		strings.Repeat("n", 100),
	} {
		if in, id, ok := ident.Part(key); in != "" || id != "" || ok {
			t.Errorf("Part(%q): %q, %q, %t", key, in, id, ok)
		}
	}
}

// P8.2, at texts of few bytes, and at long ones.
func TestPartsOfDice(t *testing.T) {
	d := newDice(82)
	parted, not := 0, 0
	for i := range 60000 {
		key := d.text(d.Intn(7), "aab/A1 ")
		if i%3 == 0 {
			key = d.text(d.Intn(40), "abc.") + "/" + d.text(d.Intn(80), "xy/~")
		}
		in, id, ok := ident.Part(key)
		wantIn, wantId, want := wordsPart(key)
		if in != wantIn || id != wantId || ok != want {
			t.Fatalf("Part(%q): %q, %q, %t", key, in, id, ok)
		}
		if ok {
			parted++
		} else {
			not++
		}
	}
	if parted < 5000 || not < 5000 {
		t.Errorf("%d parted, %d not: that says little", parted, not)
	}
}
