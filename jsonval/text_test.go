package jsonval_test

import (
	"strconv"
	"testing"
	"unicode/utf8"

	"docket/api"
	"docket/jsonval"
)

// holdText holds what a text in quotes says.
func holdText(t *testing.T, quoted, want string) {
	t.Helper()
	v, e, at := jsonval.Parse(quoted)
	if e != api.OK || at != 0 || !jsonval.Equal(v, api.Value{Kind: api.Text, Text: want}) {
		t.Errorf("Parse(%q): %v, %d at %d, want %q", quoted, v, e, at, want)
	}
}

func TestTextSays(t *testing.T) {
	for _, c := range [][2]string{
		{`""`, ""},
		{`"abc"`, "abc"},
		{`"a b/c"`, "a b/c"},
		{`"\"\\\/\b\f\n\r\t"`, "\"\\/\x08\x0c\x0a\x0d\x09"},
		{`"\\\\"`, `\\`},
		{`"\\n"`, `\n`},
		{`"a\"b"`, `a"b`},
		{`"\u0041\u00e9\u20ac"`, "A\u00e9\u20ac"},
		{`"\u0000\u001f"`, "\x00\x1f"},
		{`"\u0022\u005c"`, `"\`},
		{`"\uabcd\uABCD\uaBcD"`, "\uabcd\uabcd\uabcd"},
		{`"\ud7ff\ue000\uffff\ufffd"`, "\ud7ff\ue000\uffff\ufffd"},
		{`"\u09af\u09AF"`, "\u09af\u09af"},
		{`"\u00411"`, "A1"},
		{`"\ud83d\ude00"`, "\U0001f600"},
		{`"\uD83D\uDE00x"`, "\U0001f600x"},
		{`"\ud800\udc00"`, "\U00010000"},
		{`"\udbff\udfff"`, "\U0010ffff"},
		{"\"\x20\x7f\"", "\x20\x7f"},
		{"\"\u0080\u07ff\u0800\ud7ff\ue000\ufffd\uffff\U00010000\U0010ffff\"", "\u0080\u07ff\u0800\ud7ff\ue000\ufffd\uffff\U00010000\U0010ffff"},
		{"\"x\ufffdy\"", "x\ufffdy"},
	} {
		holdText(t, c[0], c[1])
	}
}

func TestTextBytes(t *testing.T) {
	for c := range 32 {
		text := "\"a" + string([]byte{byte(c)}) + "\""
		holdParse(t, []told{{text, api.ErrText, 2, ""}, {text[:3], api.ErrText, 2, ""}})
	}
	holdParse(t, []told{
		{`"`, api.ErrShort, 1, ""},
		{`"abc`, api.ErrShort, 4, ""},
		{`["a`, api.ErrShort, 3, ""},
		{`"a'`, api.ErrShort, 3, ""},
		{`'a'`, api.ErrToken, 0, ""},
		{"{\"a\n\":1}", api.ErrText, 3, ""},
	})
}

func TestTextCharacters(t *testing.T) {
	holdParse(t, []told{
		{"\"\x80\"", api.ErrUtf, 1, ""},
		{"\"a\xbf", api.ErrUtf, 2, ""},
		{"\"\xc0\x80\"", api.ErrUtf, 1, ""},
		{"\"\xc1\xbf\"", api.ErrUtf, 1, ""},
		{"\"\xc1", api.ErrUtf, 1, ""},
		{"\"\xc2\"", api.ErrUtf, 1, ""},
		{"\"\xc2", api.ErrShort, 2, ""},
		{"\"\xc2\xc2", api.ErrUtf, 1, ""},
		{"\"\xc2\xa9\xa9", api.ErrUtf, 3, ""},
		{"\"\xe0\x80\x80\"", api.ErrUtf, 1, ""},
		{"\"\xe0\x9f", api.ErrUtf, 1, ""},
		{"\"\xe0\xa0", api.ErrShort, 3, ""},
		{"\"\xe0", api.ErrShort, 2, ""},
		{"\"\xe2\x82\"", api.ErrUtf, 1, ""},
		{"\"\xe2\x82", api.ErrShort, 3, ""},
		{"\"\xe2\"", api.ErrUtf, 1, ""},
		{"\"\xed\x9f", api.ErrShort, 3, ""},
		{"\"\xed\xa0", api.ErrUtf, 1, ""},
		{"\"\xed\xa0\x80\"", api.ErrUtf, 1, ""},
		{"\"\xed\xbf\xbf\"", api.ErrUtf, 1, ""},
		{"\"\xf0\x8f", api.ErrUtf, 1, ""},
		{"\"\xf0\x90", api.ErrShort, 3, ""},
		{"\"\xf0\x9f\x98", api.ErrShort, 4, ""},
		{"\"\xf0\x9f\x98\"", api.ErrUtf, 1, ""},
		{"\"\xf0\x9fx", api.ErrUtf, 1, ""},
		{"\"\xf0\x8f\xbf\xbf\"", api.ErrUtf, 1, ""},
		{"\"\xf4\x8f", api.ErrShort, 3, ""},
		{"\"\xf4\x90", api.ErrUtf, 1, ""},
		{"\"\xf4\x90\x80\x80\"", api.ErrUtf, 1, ""},
		{"\"\xf5", api.ErrUtf, 1, ""},
		{"\"\xff", api.ErrUtf, 1, ""},
		{"\"\ufffd\xff", api.ErrUtf, 4, ""},
		{"\"\xff\x01", api.ErrUtf, 1, ""},
		{"{\"\xff\":1}", api.ErrUtf, 2, ""},
	})
}

func TestTextEscapes(t *testing.T) {
	for c := range 256 {
		b := byte(c)
		switch b {
		case '"', '\\', '/', 'b', 'f', 'n', 'r', 't', 'u':
			continue
		}
		holdParse(t, []told{{"\"a\\" + string([]byte{b}) + "\"", api.ErrEscape, 3, ""}})
	}
	holdParse(t, []told{
		{`"\`, api.ErrShort, 2, ""},
		{`"\"`, api.ErrShort, 3, ""},
		{`"\u`, api.ErrShort, 3, ""},
		{`"\u0`, api.ErrShort, 4, ""},
		{`"\u004`, api.ErrShort, 6, ""},
		{`"\u0041`, api.ErrShort, 7, ""},
		{`"\u"`, api.ErrEscape, 3, ""},
		{`"\ug000"`, api.ErrEscape, 3, ""},
		{`"\u0G00"`, api.ErrEscape, 4, ""},
		{`"\u00:0"`, api.ErrEscape, 5, ""},
		{`"\u000"`, api.ErrEscape, 6, ""},
		{`"\u000@"`, api.ErrEscape, 6, ""},
		{"\"\\u000`\"", api.ErrEscape, 6, ""},
		{`"\u00/0"`, api.ErrEscape, 5, ""},
		{"\"\\u0\xff\"", api.ErrEscape, 4, ""},
		{`"\U0041"`, api.ErrEscape, 2, ""},
		{`{"\x":1}`, api.ErrEscape, 3, ""},
	})
}

func TestTextPairs(t *testing.T) {
	holdParse(t, []told{
		{`"\ud83d"`, api.ErrUtf, 1, ""},
		{`"a\ud83dx`, api.ErrUtf, 2, ""},
		{`"\ud83d`, api.ErrShort, 7, ""},
		{`"\ud83d\`, api.ErrShort, 8, ""},
		{`"\ud83d\n`, api.ErrUtf, 1, ""},
		{`"\ud83d\x`, api.ErrUtf, 1, ""},
		{`"\ud83d\"`, api.ErrUtf, 1, ""},
		{"\"\\ud83d\xff", api.ErrUtf, 1, ""},
		{"\"\\ud83d\x01", api.ErrUtf, 1, ""},
		{`"\ud83d\u`, api.ErrShort, 9, ""},
		{`"\ud83d\u0`, api.ErrShort, 10, ""},
		{`"\ud83d\u"`, api.ErrEscape, 9, ""},
		{`"\ud83d\u004x"`, api.ErrEscape, 12, ""},
		{`"\ud83d\u0041"`, api.ErrUtf, 1, ""},
		{`"\ud83d\ud83d"`, api.ErrUtf, 1, ""},
		{`"\ud83d\udbff"`, api.ErrUtf, 1, ""},
		{`"\ud83d\ue000"`, api.ErrUtf, 1, ""},
		{`"\ud800"`, api.ErrUtf, 1, ""},
		{`"\udbff"`, api.ErrUtf, 1, ""},
		{`"\udc00"`, api.ErrUtf, 1, ""},
		{`"ab\udfff"`, api.ErrUtf, 3, ""},
		{`"\udc00\ud800"`, api.ErrUtf, 1, ""},
		{`"\udc00\udc00"`, api.ErrUtf, 1, ""},
		{`"\ud83d\ude00\ude00"`, api.ErrUtf, 13, ""},
		{`"\udc0`, api.ErrShort, 6, ""},
		{`"\udc0x`, api.ErrEscape, 6, ""},
	})
}

// TestTextAllCodes goes through every number that \u can have, alone.
func TestTextAllCodes(t *testing.T) {
	for x := range 0x10000 {
		digits := strconv.FormatInt(int64(0x10000+x), 16)[1:]
		text := `"\u` + digits + `"`
		v, e, at := jsonval.Parse(text)
		if utf8.ValidRune(rune(x)) {
			if e != api.OK || v.Text != string(rune(x)) {
				t.Fatalf("%s: %q, %d at %d", text, v.Text, e, at)
			}
		} else if e != api.ErrUtf || at != 1 {
			t.Fatalf("%s: %d at %d", text, e, at)
		}
	}
}
