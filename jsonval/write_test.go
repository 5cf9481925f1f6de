package jsonval_test

import (
	"math"
	"strings"
	"testing"

	"docket/api"
	"docket/jsonval"
)

func holdPrint(t *testing.T, v api.Value, want string) {
	t.Helper()
	if text, e := jsonval.Print(v); e != api.OK || text != want {
		t.Errorf("Print: %q, %d, want %q", text, e, want)
	}
	if size := jsonval.Size(v); size != len(want) {
		t.Errorf("Size of %q: %d, want %d", want, size, len(want))
	}
}

func TestPrintKinds(t *testing.T) {
	one, two := jsonval.Of(1), jsonval.Of(-2)
	holdPrint(t, api.Value{}, "null")
	holdPrint(t, jsonval.Flag(true), "true")
	holdPrint(t, jsonval.Flag(false), "false")
	holdPrint(t, jsonval.Of(0), "0")
	holdPrint(t, jsonval.Of(10), "10")
	holdPrint(t, jsonval.Of(-10), "-10")
	holdPrint(t, jsonval.Of(math.MaxInt64), "9223372036854775807")
	holdPrint(t, jsonval.Of(math.MinInt64), "-9223372036854775808")
	holdPrint(t, jsonval.Word(""), `""`)
	holdPrint(t, jsonval.Listed(), "[]")
	holdPrint(t, jsonval.Listed(one), "[1]")
	holdPrint(t, jsonval.Listed(one, two, jsonval.Listed()), "[1,-2,[]]")
	holdPrint(t, jsonval.Named(nil), "{}")
	holdPrint(t, jsonval.Named([]string{"a"}, one), `{"a":1}`)
	holdPrint(t, jsonval.Named([]string{"z\n", ""}, two, jsonval.Named(nil)), `{"z\n":-2,"":{}}`)
}

func TestPrintTexts(t *testing.T) {
	const control = `\u0000 \u0001 \u0002 \u0003 \u0004 \u0005 \u0006 \u0007 \b \t \n \u000b \f \r \u000e \u000f ` +
		`\u0010 \u0011 \u0012 \u0013 \u0014 \u0015 \u0016 \u0017 \u0018 \u0019 \u001a \u001b \u001c \u001d \u001e \u001f`
	for c, escape := range strings.Fields(control) {
		holdPrint(t, jsonval.Word("a"+string(rune(c))+"b"), `"a`+escape+`b"`)
		holdPrint(t, object([]string{string(rune(c))}, api.Value{}), `{"`+escape+`":null}`)
	}
	for c := rune(32); c < 0x110000; c++ {
		if c == '"' || c == '\\' || c >= 0xd800 && c < 0xe000 {
			continue
		}
		s := string(c)
		if text, e := jsonval.Print(jsonval.Word(s)); e != api.OK || text != `"`+s+`"` {
			t.Fatalf("Print of character %x: %q, %d", c, text, e)
		}
	}
	holdPrint(t, jsonval.Word(`"`), `"\""`)
	holdPrint(t, jsonval.Word(`\`), `"\\"`)
	holdPrint(t, jsonval.Word("/\x7f"), "\"/\x7f\"")
	holdPrint(t, jsonval.Word("\u00e9\"\x01"), "\"\u00e9\\\"\\u0001\"")
}

func TestPrintLength(t *testing.T) {
	for _, c := range []struct {
		v    api.Value
		size int
	}{
		{jsonval.Word(strings.Repeat("x", api.MaxText-2)), api.MaxText},
		{jsonval.Word(strings.Repeat("x", api.MaxText-1)), api.MaxText + 1},
		{jsonval.Word(strings.Repeat("\x01", 10922) + "xx"), api.MaxText},
		{jsonval.Word(strings.Repeat("\x01", 10922) + "xxx"), api.MaxText + 1},
		{jsonval.Word(strings.Repeat("\"", 1<<20)), 1<<21 + 2},
		{list(make([]api.Value, 13107)...), api.MaxText},
		{list(make([]api.Value, 13108)...), api.MaxText + 5},
		{object([]string{strings.Repeat("x", api.MaxText-6)}, jsonval.Of(1)), api.MaxText},
		{object([]string{strings.Repeat("x", api.MaxText-5)}, jsonval.Of(1)), api.MaxText + 1},
	} {
		if size := jsonval.Size(c.v); size != c.size {
			t.Errorf("Size: %d, want %d", size, c.size)
		}
		text, e := jsonval.Print(c.v)
		if c.size <= api.MaxText && (e != api.OK || len(text) != c.size) {
			t.Errorf("Print of size %d: %d bytes, %d", c.size, len(text), e)
		}
		if c.size > api.MaxText && (e != api.ErrLong || text != "") {
			t.Errorf("Print of size %d: %d bytes, %d", c.size, len(text), e)
		}
	}
}

// TestPrintCheckFirst has a text that would be too long as well as another fault.
func TestPrintCheckFirst(t *testing.T) {
	long := jsonval.Word(strings.Repeat("x", api.MaxText))
	for _, c := range []checked{
		{list(long, api.Value{Kind: 9}), api.ErrValue},
		{object([]string{"a", "a"}, long, long), api.ErrName},
		{list(long, nested(64, api.Value{})), api.ErrDepth},
	} {
		if text, e := jsonval.Print(c.v); e != c.want || text != "" {
			t.Errorf("Print: %d bytes, %d, want %d", len(text), e, c.want)
		}
		if size := jsonval.Size(c.v); size != 0 {
			t.Errorf("Size: %d", size)
		}
	}
}

func TestDepth(t *testing.T) {
	one := jsonval.Of(1)
	for _, c := range []struct {
		v    api.Value
		want int
	}{
		{api.Value{}, 0},
		{jsonval.Word("[[]]"), 0},
		{list(), 0},
		{object(nil), 0},
		{list(one), 1},
		{list(list()), 1},
		{list(list(one)), 2},
		{object([]string{"a"}, list(one)), 2},
		{list(list(list(one)), one), 3},
		{list(one, list(list(one)), list(one)), 3},
		{api.Value{Kind: api.Int, Items: []api.Value{one}}, 1},
		{api.Value{Kind: 99, Items: []api.Value{{Kind: -1, Items: []api.Value{{}}}}}, 2},
		{api.Value{Kind: api.Object, Names: []string{"a", "b"}}, 0},
		{nested(64, one), 64},
		{nested(65536, one), 65536},
	} {
		if got := jsonval.Depth(c.v); got != c.want {
			t.Errorf("Depth: %d, want %d", got, c.want)
		}
	}
}
