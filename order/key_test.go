package order_test

import (
	"bytes"
	"encoding/hex"
	"strings"
	"testing"

	"docket/api"
	"docket/jsonval"
	"docket/order"
)

// A value, as JSON says it, and its key.
type pairing struct{ text, key string }

func pairings() []pairing {
	return []pairing{
		{"null", "05"}, {"false", "50"}, {"true", "51"},
		{"0", "10 8000000000000000"}, {"1", "10 8000000000000001"}, {"-1", "10 7fffffffffffffff"}, {"258", "10 8000000000000102"},
		{"-9223372036854775808", "10 0000000000000000"}, {"9223372036854775807", "10 ffffffffffffffff"}, {"81985529216486895", "10 8123456789abcdef"},
		{`""`, "20 0001"}, {`"a"`, "20 61 0001"}, {`"a\u0000"`, "20 61 00ff 0001"}, {`"\u0000\u0000b"`, "20 00ff 00ff 62 0001"}, {`"\u0001\u0000\u0001"`, "20 01 00ff 01 0001"}, {`"é"`, "20 c3a9 0001"},
		{"{}", "30 01"}, {`{"a":null}`, "30 02 61 0001 05 01"}, {`{"":false,"\u0000":{}}`, "30 02 0001 50 02 00ff 0001 3001 01"}, {`{"b":[],"a":"x"}`, "30 02 62 0001 4001 02 61 0001 20 78 0001 01"},
		{"[]", "40 01"}, {"[1]", "40 02 10 8000000000000001 01"}, {"[null,[true],{}]", "40 02 05 02 40 02 51 01 02 30 01 01"},
	}
}

// P3.3.
func TestBytes(t *testing.T) {
	for _, c := range pairings() {
		key, e := order.Bytes(parsed(t, c.text))
		if e != api.OK || !bytes.Equal(key, bytesOf(t, c.key)) {
			t.Errorf("Bytes(%s): %x, %d, want %s", c.text, key, e, c.key)
		}
	}
}

// P3.3: whatever MaxText is.
func TestBytesOfLongText(t *testing.T) {
	long := strings.Repeat("\x00x", api.MaxText)
	key, e := order.Bytes(jsonval.Word(long))
	if want := "\x20" + strings.Repeat("\x00\xffx", api.MaxText) + "\x00\x01"; e != api.OK || string(key) != want {
		t.Errorf("Bytes of a long text: %d bytes, %d", len(key), e)
	}
	if v, e, at := order.FromBytes(key); e != api.OK || at != 0 || !jsonval.Equal(v, jsonval.Word(long)) {
		t.Errorf("FromBytes of a long text: %d at %d", e, at)
	}
}

// P3.3: what Check refuses has no bytes.
func TestBytesOfNoValue(t *testing.T) {
	one := jsonval.Of(1)
	for _, c := range []struct {
		v    api.Value
		want api.Errno
	}{
		{api.Value{Kind: 7}, api.ErrValue}, {api.Value{Kind: -1}, api.ErrValue}, {api.Value{Kind: api.Null, Int: 1}, api.ErrValue}, {api.Value{Kind: api.Text, Text: "a", Int: 1}, api.ErrValue},
		{jsonval.Word("\xff"), api.ErrValue}, {jsonval.Listed(one, jsonval.Word("\xff")), api.ErrValue}, {jsonval.Named([]string{"\xff"}, one), api.ErrValue},
		{jsonval.Named([]string{"a"}), api.ErrValue}, {jsonval.Named([]string{"a", "a"}, one, one), api.ErrName}, {jsonval.Named([]string{"a", "a"}, one, api.Value{Kind: 7}), api.ErrName},
		{nested(api.MaxDepth+1, one), api.ErrDepth}, {nested(api.MaxDepth, jsonval.Named(nil)), api.ErrDepth},
	} {
		if key, e := order.Bytes(c.v); e != c.want || len(key) != 0 {
			t.Errorf("Bytes(%s): %x, %d, want %d", full(c.v), key, e, c.want)
		}
	}
	if _, e := order.Bytes(nested(api.MaxDepth, one)); e != api.OK {
		t.Errorf("Bytes at the greatest depth: %d", e)
	}
}

// P3.3: Check's error, whatever is wrong.
func TestBytesAndCheck(t *testing.T) {
	d := newDice(3)
	fine := 0
	for range 20000 {
		v := d.spoilt(2)
		key, e := order.Bytes(v)
		if e != jsonval.Check(v) || e != api.OK && len(key) != 0 {
			t.Fatalf("Bytes(%s): %x, %d, and Check %d", full(v), key, e, jsonval.Check(v))
		}
		if e == api.OK {
			fine++
		}
	}
	if fine < 100 {
		t.Errorf("%d were OK: that says little", fine)
	}
}

// P3.4: what is a key.
func TestFromBytes(t *testing.T) {
	for _, c := range pairings() {
		v, e, at := order.FromBytes(bytesOf(t, c.key))
		if e != api.OK || at != 0 || !jsonval.Equal(v, parsed(t, c.text)) {
			t.Errorf("FromBytes(%s): %s, %d at %d, want %s", c.key, full(v), e, at, c.text)
		}
	}
}

// P3.4: what is none.
func TestFromBytesOfNoKey(t *testing.T) {
	lists := func(n int) string { return strings.Repeat("4002", n) }
	ends := func(n int) string { return strings.Repeat("01", n) }
	for _, c := range []struct {
		key   string
		want  api.Errno
		place int
	}{
		{"", api.ErrShort, 0}, {"10", api.ErrShort, 1}, {"10 80000000000000", api.ErrShort, 8}, {"20", api.ErrShort, 1}, {"20 61", api.ErrShort, 2}, {"20 61 00", api.ErrShort, 3}, {"20 61 00ff", api.ErrShort, 4}, {"20 00ff 00", api.ErrShort, 4},
		{"30", api.ErrShort, 1}, {"30 02", api.ErrShort, 2}, {"30 02 61", api.ErrShort, 3}, {"30 02 61 0001", api.ErrShort, 5}, {"30 02 61 0001 05", api.ErrShort, 6}, {"40", api.ErrShort, 1}, {"40 02", api.ErrShort, 2}, {"40 02 05", api.ErrShort, 3}, {"40 02 40 01", api.ErrShort, 4},
		{"20 80", api.ErrShort, 2}, {"20 80 00", api.ErrShort, 3}, {"30 02 61 0001 05 02 61 00", api.ErrShort, 9}, // it has not ended yet

		{"00", api.ErrKey, 0}, {"01", api.ErrKey, 0}, {"02", api.ErrKey, 0}, {"04", api.ErrKey, 0}, {"06", api.ErrKey, 0}, {"11", api.ErrKey, 0}, {"21", api.ErrKey, 0}, {"31", api.ErrKey, 0}, {"41", api.ErrKey, 0}, {"4f", api.ErrKey, 0}, {"52", api.ErrKey, 0}, {"ff", api.ErrKey, 0},
		{"40 02 01", api.ErrKey, 2}, {"40 02 02", api.ErrKey, 2}, {"30 02 0001 00", api.ErrKey, 4},
		{"20 00 02", api.ErrKey, 2}, {"20 00 00", api.ErrKey, 2}, {"20 61 00 fe 00 01", api.ErrKey, 3}, {"20 80 00 02", api.ErrKey, 3}, {"30 02 61 00 03", api.ErrKey, 4}, {"30 02 61 0001 05 02 61 00 61", api.ErrKey, 9},
		{"40 03", api.ErrKey, 1}, {"40 00", api.ErrKey, 1}, {"40 05", api.ErrKey, 1}, {"40 02 05 05", api.ErrKey, 3}, {"30 03", api.ErrKey, 1}, {"30 00", api.ErrKey, 1}, {"30 61", api.ErrKey, 1}, {"30 02 61 0001 05 00", api.ErrKey, 6},

		{"20 80 00 01", api.ErrUtf, 1}, {"20 61 80 00 01", api.ErrUtf, 1}, {"20 ff 00 01", api.ErrUtf, 1}, {"20 c3 00ff a9 00 01", api.ErrUtf, 1}, {"20 c0 80 00 01", api.ErrUtf, 1}, {"20 ed a0 80 00 01", api.ErrUtf, 1}, {"20 f4 90 80 80 00 01", api.ErrUtf, 1}, {"20 c3 00 01 05", api.ErrUtf, 1},
		{"40 02 05 02 20 80 00 01 01", api.ErrUtf, 5}, {"30 02 80 00 01", api.ErrUtf, 2}, {"30 02 61 80 00 01 99", api.ErrUtf, 2}, {"30 02 61 0001 20 80 0001 01", api.ErrUtf, 6}, {"30 02 80 0001 05 02 80 0001 05 01", api.ErrUtf, 2},

		{"30 02 61 0001 05 02 61 0001", api.ErrName, 7}, {"30 02 61 0001 05 02 61 0001 99", api.ErrName, 7}, {"30 02 0001 05 02 0001 05 01", api.ErrName, 6}, {"30 02 00ff 0001 05 02 62 0001 05 02 00ff 0001", api.ErrName, 13}, {"40 02 30 02 61 0001 05 02 61 0001 05 01 01", api.ErrName, 9},

		{lists(64) + "40", api.ErrDepth, 128}, {lists(64) + "30", api.ErrDepth, 128}, {lists(64) + "4001" + ends(64), api.ErrDepth, 128}, {lists(63) + "30 02 0001 40", api.ErrDepth, 130}, {lists(64) + "41", api.ErrKey, 128}, {lists(64), api.ErrShort, 128},

		{"05 05", api.ErrTail, 1}, {"10 8000000000000000 00", api.ErrTail, 9}, {"20 0001 01", api.ErrTail, 3}, {"3001 3001", api.ErrTail, 2}, {"4001 01", api.ErrTail, 2}, {"50 99", api.ErrTail, 1}, {lists(64) + "05" + ends(65), api.ErrTail, 193},
	} {
		v, e, at := order.FromBytes(bytesOf(t, c.key))
		if e != c.want || at != c.place || !isZero(v) {
			t.Errorf("FromBytes(%s): %s, %d at %d, want %d at %d", c.key, full(v), e, at, c.want, c.place)
		}
	}
}

// P3.4: the greatest depth, and one name in objects that stand beside or in one another.
func TestFromBytesAtItsEdges(t *testing.T) {
	for _, v := range []api.Value{
		nested(api.MaxDepth, jsonval.Of(1)), nested(api.MaxDepth, jsonval.Word("a")), nested(api.MaxDepth-1, jsonval.Named([]string{"a"}, jsonval.Flag(true))), nested(api.MaxDepth-1, jsonval.Named(nil)), nested(api.MaxDepth-1, jsonval.Listed()),
		parsed(t, `[{"a":1},{"a":1}]`), parsed(t, `{"a":{"a":{"a":1}},"b":{"a":1}}`), parsed(t, `{"a":"a","A":"a","a\u0000":1,"":2}`),
	} {
		if w, e, at := order.FromBytes(keyOf(t, v)); e != api.OK || at != 0 || !jsonval.Equal(v, w) {
			t.Errorf("FromBytes of Bytes(%s): %s, %d at %d", full(v), full(w), e, at)
		}
	}
}

// P3.4: no other byte than those of the table begins a value.
func TestFirstBytes(t *testing.T) {
	known := "\x05\x10\x20\x30\x40\x50\x51"
	for b := range 256 {
		_, e, at := order.FromBytes([]byte{byte(b)})
		if none := e == api.ErrKey && at == 0; none == (strings.IndexByte(known, byte(b)) >= 0) {
			t.Errorf("FromBytes(%02x): %d at %d", b, e, at)
		}
	}
}

// What is answered has no memory of what was handed in, and the bytes that were handed in are as they were, spare ones too.
func TestMemoryOfKeys(t *testing.T) {
	v := parsed(t, `{"name":["some text",{"other":"more"}],"\u0000":"\u0000"}`)
	key, again := keyOf(t, v), keyOf(t, v)
	room := append(append(make([]byte, 0, len(key)+4), key...), 1, 2, 3, 4)
	w, _, _ := order.FromBytes(room[:len(key)])
	x, _, _ := order.FromBytes(room[:len(key)])
	if !bytes.Equal(room, append(bytes.Clone(key), 1, 2, 3, 4)) {
		t.Errorf("FromBytes has changed what it was handed: %x", room)
	}
	clear(room)
	if told := full(w); told != full(v) {
		t.Errorf("FromBytes' answer lies in what it was handed: %s", told)
	}
	clear(w.Items[:cap(w.Items)])
	clear(w.Names[:cap(w.Names)])
	if told := full(x); told != full(v) {
		t.Errorf("two answers of FromBytes share memory: %s", told)
	}
	clear(key[:cap(key)])
	if hex.EncodeToString(again) != hex.EncodeToString(keyOf(t, v)) {
		t.Error("two answers of Bytes share memory")
	}
}
