package jsonval_test

import (
	"bytes"
	"encoding/json"
	"strconv"
	"strings"
	"testing"
	"unsafe"

	"docket/api"
	"docket/jsonval"
)

func TestParseExamples(t *testing.T) {
	holdParse(t, []told{
		{" {\"a\" : [1, -2, true]} ", api.OK, 0, `{"a":[1,-2,true]}`},
		{"-0", api.OK, 0, "0"},
		{"9223372036854775808", api.ErrRange, 0, ""},
		{"[-9223372036854775808]", api.OK, 0, "[-9223372036854775808]"},
		{"", api.ErrShort, 0, ""},
		{"1.5", api.ErrInt, 1, ""},
		{"-", api.ErrShort, 1, ""},
		{"-x", api.ErrToken, 1, ""},
		{"01", api.ErrTail, 1, ""},
		{"[01]", api.ErrToken, 2, ""},
		{"nul", api.ErrShort, 3, ""},
		{`{"a":1,"a":2}`, api.ErrName, 7, ""},
	})
}

func TestParseWholeText(t *testing.T) {
	holdParse(t, []told{
		{" \t\n\rnull\r\n\t ", api.OK, 0, "null"},
		{" \t\n\r", api.ErrShort, 4, ""},
		{"null null", api.ErrTail, 5, ""},
		{"nullx", api.ErrTail, 4, ""},
		{"1 ,", api.ErrTail, 2, ""},
		{"[]]", api.ErrTail, 2, ""},
		{"{}{", api.ErrTail, 2, ""},
		{"\"a\"\"", api.ErrTail, 3, ""},
		{"1\x00", api.ErrTail, 1, ""},
		{"\x0b1", api.ErrToken, 0, ""},
		{"1\x0c", api.ErrTail, 1, ""},
		{"\xef\xbb\xbf1", api.ErrToken, 0, ""},
		{"\u00a01", api.ErrToken, 0, ""},
	})
}

func TestParseOtherBytes(t *testing.T) {
	const begins = "ntf-0123456789\"[{ \t\n\r"
	for c := range 256 {
		if strings.IndexByte(begins, byte(c)) >= 0 {
			continue
		}
		text := string([]byte{byte(c)})
		holdParse(t, []told{
			{text, api.ErrToken, 0, ""},
			{" " + text, api.ErrToken, 1, ""},
			{"[0," + text + "]", api.ErrToken, 3, ""},
		})
	}
}

func TestParseLiterals(t *testing.T) {
	holdParse(t, []told{
		{"null", api.OK, 0, "null"},
		{"true", api.OK, 0, "true"},
		{"false", api.OK, 0, "false"},
		{"n", api.ErrShort, 1, ""},
		{"tru", api.ErrShort, 3, ""},
		{" fals", api.ErrShort, 5, ""},
		{"nULL", api.ErrToken, 1, ""},
		{"tRue", api.ErrToken, 1, ""},
		{"trUe", api.ErrToken, 2, ""},
		{"fal e", api.ErrToken, 3, ""},
		{"falsE", api.ErrToken, 4, ""},
		{"nu]", api.ErrToken, 2, ""},
		{"Null", api.ErrToken, 0, ""},
		{"[nullx]", api.ErrToken, 5, ""},
	})
}

func TestParseNumbers(t *testing.T) {
	holdParse(t, []told{
		{"0", api.OK, 0, "0"},
		{"7", api.OK, 0, "7"},
		{"-7", api.OK, 0, "-7"},
		{"1000000", api.OK, 0, "1000000"},
		{"9223372036854775807", api.OK, 0, "9223372036854775807"},
		{"-9223372036854775808", api.OK, 0, "-9223372036854775808"},
		{" -9223372036854775809", api.ErrRange, 1, ""},
		{"[1, 9223372036854775808", api.ErrRange, 4, ""},
		{"18446744073709551616", api.ErrRange, 0, ""},
		{"99999999999999999999.5", api.ErrRange, 0, ""},
		{"99999999999999999999e", api.ErrRange, 0, ""},
		{"[9223372036854775807.", api.ErrInt, 20, ""},
		{strings.Repeat("9", api.MaxText), api.ErrRange, 0, ""},
		{"-00", api.ErrTail, 2, ""},
		{"-01", api.ErrTail, 2, ""},
		{"00", api.ErrTail, 1, ""},
		{"01.5", api.ErrTail, 1, ""},
		{"09223372036854775808", api.ErrTail, 1, ""},
		{"0.5", api.ErrInt, 1, ""},
		{"-0.5", api.ErrInt, 2, ""},
		{"0e1", api.ErrInt, 1, ""},
		{"12e5", api.ErrInt, 2, ""},
		{"12E5", api.ErrInt, 2, ""},
		{"12.", api.ErrInt, 2, ""},
		{"[1.0]", api.ErrInt, 2, ""},
		{"-e", api.ErrToken, 1, ""},
		{"-.5", api.ErrToken, 1, ""},
		{"--1", api.ErrToken, 1, ""},
		{"- 1", api.ErrToken, 1, ""},
		{"[-]", api.ErrToken, 2, ""},
		{"[-", api.ErrShort, 2, ""},
		{"+1", api.ErrToken, 0, ""},
		{".5", api.ErrToken, 0, ""},
		{"1-", api.ErrTail, 1, ""},
		{"1a", api.ErrTail, 1, ""},
		{"0x1", api.ErrTail, 1, ""},
		{"1_0", api.ErrTail, 1, ""},
	})
}

func TestParseLists(t *testing.T) {
	holdParse(t, []told{
		{"[]", api.OK, 0, "[]"},
		{"[ \t\r\n]", api.OK, 0, "[]"},
		{"[1]", api.OK, 0, "[1]"},
		{"[ 1 , [ ] ,\n{ } ]", api.OK, 0, "[1,[],{}]"},
		{"[", api.ErrShort, 1, ""},
		{"[ ", api.ErrShort, 2, ""},
		{"[1", api.ErrShort, 2, ""},
		{"[1 ", api.ErrShort, 3, ""},
		{"[1,", api.ErrShort, 3, ""},
		{"[1, ", api.ErrShort, 4, ""},
		{"[1,]", api.ErrToken, 3, ""},
		{"[,1]", api.ErrToken, 1, ""},
		{"[1,,2]", api.ErrToken, 3, ""},
		{"[1 2]", api.ErrToken, 3, ""},
		{"[1}", api.ErrToken, 2, ""},
		{"[}", api.ErrToken, 1, ""},
		{"[1:2]", api.ErrToken, 2, ""},
		{"[1;2]", api.ErrToken, 2, ""},
		{"]", api.ErrToken, 0, ""},
	})
}

func TestParseObjects(t *testing.T) {
	holdParse(t, []told{
		{"{}", api.OK, 0, "{}"},
		{"{ }", api.OK, 0, "{}"},
		{"{ \"b\" : 1 ,\t\"a\"\n:\r{ \"b\" : [ ] } }", api.OK, 0, `{"b":1,"a":{"b":[]}}`},
		{`{"":0}`, api.OK, 0, `{"":0}`},
		{`{"a":1,"A":1}`, api.OK, 0, `{"a":1,"A":1}`},
		{"{", api.ErrShort, 1, ""},
		{"{ ", api.ErrShort, 2, ""},
		{`{"a`, api.ErrShort, 3, ""},
		{`{"a"`, api.ErrShort, 4, ""},
		{`{"a":`, api.ErrShort, 5, ""},
		{`{"a": 1`, api.ErrShort, 7, ""},
		{`{"a":1,`, api.ErrShort, 7, ""},
		{`{"a":1,}`, api.ErrToken, 7, ""},
		{`{,}`, api.ErrToken, 1, ""},
		{`{a:1}`, api.ErrToken, 1, ""},
		{`{1:1}`, api.ErrToken, 1, ""},
		{`{null:1}`, api.ErrToken, 1, ""},
		{`{"a",1}`, api.ErrToken, 4, ""},
		{`{"a" 1}`, api.ErrToken, 5, ""},
		{`{"a":}`, api.ErrToken, 5, ""},
		{`{"a":,`, api.ErrToken, 5, ""},
		{`{"a"::1}`, api.ErrToken, 5, ""},
		{`{"a":1]`, api.ErrToken, 6, ""},
		{`{"a":1:`, api.ErrToken, 6, ""},
		{`{"a":1 "b":2}`, api.ErrToken, 7, ""},
		{`{"a":1, 2}`, api.ErrToken, 8, ""},
		{`{]`, api.ErrToken, 1, ""},
		{`}`, api.ErrToken, 0, ""},
	})
}

func TestParseNames(t *testing.T) {
	holdParse(t, []told{
		{`{"a":1,"b":2, "a":3}`, api.ErrName, 14, ""},
		{`{"a":1,"a"`, api.ErrName, 7, ""},
		{`{"a":1,"a"x`, api.ErrName, 7, ""},
		{`{"a":1,"a`, api.ErrShort, 9, ""},
		{"{\"a\":1,\"a\x01\"}", api.ErrText, 9, ""},
		{`{"a":1,"\u0061":2}`, api.ErrName, 7, ""},
		{`{"\u0061":1,"a":x}`, api.ErrName, 12, ""},
		{`{"":1,"":2}`, api.ErrName, 6, ""},
		{`{"a":{"a":1},"b":{"a":1}}`, api.OK, 0, `{"a":{"a":1},"b":{"a":1}}`},
		{`[{"a":1},{"a":1}]`, api.OK, 0, `[{"a":1},{"a":1}]`},
		{`{"b":x,"b":1}`, api.ErrToken, 5, ""},
		{`{"a":{"b":1,"b":2},"a":1}`, api.ErrName, 12, ""},
	})
}

func TestParseManyNames(t *testing.T) {
	var b strings.Builder
	b.WriteString(`{"0":0`)
	for i := 1; b.Len() < api.MaxText-20; i++ {
		b.WriteString(`,"` + strconv.Itoa(i) + `":0`)
	}
	text := b.String() + "}"
	holdParse(t, []told{{text, api.OK, 0, text}, {b.String() + `,"77":0}`, api.ErrName, b.Len() + 1, ""}})
}

func TestParseLength(t *testing.T) {
	most := `"` + strings.Repeat("x", api.MaxText-2) + `"`
	holdParse(t, []told{
		{most, api.OK, 0, most},
		{most + " ", api.ErrLong, 0, ""},
		{"x" + most, api.ErrLong, 0, ""},
		{strings.Repeat(" ", api.MaxText-1) + "1", api.OK, 0, "1"},
		{strings.Repeat(" ", api.MaxText), api.ErrShort, api.MaxText, ""},
		{strings.Repeat(" ", api.MaxText) + "1", api.ErrLong, 0, ""},
	})
}

func TestParseDepth(t *testing.T) {
	lists := func(n int, inner string) string {
		return strings.Repeat("[", n) + inner + strings.Repeat("]", n)
	}
	objects := func(n int, inner string) string {
		return strings.Repeat(`{"a":`, n) + inner + strings.Repeat("}", n)
	}
	holdParse(t, []told{
		{lists(63, "[]"), api.OK, 0, lists(64, "")},
		{lists(63, "{}"), api.OK, 0, lists(63, "{}")},
		{lists(64, "1"), api.OK, 0, lists(64, "1")},
		{lists(64, `"a"`), api.OK, 0, lists(64, `"a"`)},
		{lists(64, "[]"), api.ErrDepth, 64, ""},
		{lists(64, "{}"), api.ErrDepth, 64, ""},
		{lists(64, "{x"), api.ErrDepth, 64, ""},
		{strings.Repeat("[", 65), api.ErrDepth, 64, ""},
		{strings.Repeat("[", 64), api.ErrShort, 64, ""},
		{lists(64, " ["), api.ErrDepth, 65, ""},
		{lists(64, "x"), api.ErrToken, 64, ""},
		{lists(64, "1,[]"), api.ErrDepth, 66, ""},
		{objects(63, "{}"), api.OK, 0, objects(63, "{}")},
		{objects(64, "null"), api.OK, 0, objects(64, "null")},
		{objects(64, "{}"), api.ErrDepth, 5 * 64, ""},
		{objects(64, "[]"), api.ErrDepth, 5 * 64, ""},
		{"[" + lists(63, "") + "," + lists(63, "") + "]", api.OK, 0, "[" + lists(63, "") + "," + lists(63, "") + "]"},
	})
}

func TestParseFields(t *testing.T) {
	v := parsed(t, ` { "n" : -5 , "l" : [ null , "x" ] } `)
	want := api.Value{Kind: api.Object, Names: []string{"n", "l"}, Items: []api.Value{
		{Kind: api.Int, Int: -5},
		{Kind: api.List, Items: []api.Value{{}, {Kind: api.Text, Text: "x"}}},
	}}
	if !jsonval.Equal(v, want) {
		t.Errorf("%v, want %v", v, want)
	}
}

func TestParseMemory(t *testing.T) {
	const text = `{"a":[[1],[1],[],[]],"b":{"c":[1],"d":{"c":[1]}},"e":[1,2,3]}`
	if !placesOf(parsed(t, text), parsed(t, text)).apart() {
		t.Error("answers of Parse share memory")
	}
	word := `"text"`
	if v := parsed(t, word); unsafe.StringData(v.Text) == unsafe.StringData(word[1:]) {
		t.Error("an answer of Parse shares memory with its argument")
	}
}

// TestParseBesideLibrary holds Parse against the library's reader, where the two must agree.
func TestParseBesideLibrary(t *testing.T) {
	d := newDice(1)
	for range 20000 {
		text, _ := jsonval.Print(d.value(3))
		if d.Intn(4) > 0 {
			text = d.spoilt(text)
		}
		v, e, at := jsonval.Parse(text)
		switch e {
		case api.OK:
			if !sameAsLibrary(v, text) {
				t.Fatalf("%q is read as %v", text, v)
			}
		case api.ErrToken, api.ErrText, api.ErrEscape, api.ErrTail, api.ErrShort:
			if json.Valid([]byte(text)) {
				t.Fatalf("%q is refused: %d at %d", text, e, at)
			}
		}
	}
}

func sameAsLibrary(v api.Value, text string) bool {
	var x any
	dec := json.NewDecoder(bytes.NewReader([]byte(text)))
	dec.UseNumber()
	return json.Valid([]byte(text)) && dec.Decode(&x) == nil && sameAs(v, x)
}

func sameAs(v api.Value, x any) bool {
	switch y := x.(type) {
	case nil:
		return jsonval.Equal(v, api.Value{})
	case bool:
		return jsonval.Equal(v, jsonval.Flag(y))
	case json.Number:
		n, err := y.Int64()
		return err == nil && jsonval.Equal(v, jsonval.Of(n))
	case string:
		return jsonval.Equal(v, jsonval.Word(y))
	case []any:
		same := v.Kind == api.List && len(v.Items) == len(y)
		for i := 0; same && i < len(y); i++ {
			same = sameAs(v.Items[i], y[i])
		}
		return same
	case map[string]any:
		same := v.Kind == api.Object && len(v.Names) == len(y) && len(v.Items) == len(y)
		for i := 0; same && i < len(y); i++ {
			item, there := y[v.Names[i]]
			same = there && sameAs(v.Items[i], item)
		}
		return same
	}
	return false
}
