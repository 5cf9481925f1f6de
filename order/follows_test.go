package order_test

import (
	"bytes"
	"testing"
	"unicode/utf8"

	"docket/api"
	"docket/jsonval"
	"docket/order"
)

// P3.6.
func TestTheOrderIsTotal(t *testing.T) {
	d := newDice(6)
	inOrder := 0
	for i := range 40000 {
		a, b := d.pair()
		c := d.near(b)
		if i%2 == 0 {
			a, b, c = d.spoilt(2), d.spoilt(2), d.spoilt(2)
		}
		if order.Compare(a, b) != -order.Compare(b, a) || order.Compare(a, a) != 0 {
			t.Fatalf("%s and %s: %d and %d", full(a), full(b), order.Compare(a, b), order.Compare(b, a))
		}
		if order.Compare(a, b) <= 0 && order.Compare(b, c) <= 0 {
			inOrder++
			if order.Compare(a, c) > 0 {
				t.Fatalf("%s, %s, %s: the first is behind the third", full(a), full(b), full(c))
			}
		}
	}
	if inOrder < 1000 {
		t.Errorf("%d stood in order: that says little", inOrder)
	}
}

// P3.7, at values that the document's order tells.
func TestBytesLieAsValuesDo(t *testing.T) {
	values := parsedAll(t, rising()...)
	for _, a := range values {
		for _, b := range values {
			holdKeys(t, a, b)
		}
	}
}

// P3.7, at values of dice.
func TestBytesLieAsAllValuesDo(t *testing.T) {
	d := newDice(7)
	for range 40000 {
		a, b := d.pair()
		holdKeys(t, a, b)
	}
}

func holdKeys(t *testing.T, a, b api.Value) {
	t.Helper()
	keyA, keyB := keyOf(t, a), keyOf(t, b)
	if c := order.Compare(a, b); c != bytes.Compare(keyA, keyB) {
		t.Fatalf("Compare(%s, %s): %d, and of their bytes %d", full(a), full(b), c, bytes.Compare(keyA, keyB))
	}
	if !bytes.Equal(keyA, keyB) && bytes.HasPrefix(keyB, keyA) {
		t.Fatalf("Bytes(%s) are a beginning of Bytes(%s)", full(a), full(b))
	}
}

// P3.8.
func TestThereAndBack(t *testing.T) {
	d := newDice(8)
	for range 20000 {
		v := d.value(5)
		if w, e, at := order.FromBytes(keyOf(t, v)); e != api.OK || at != 0 || !jsonval.Equal(v, w) {
			t.Fatalf("FromBytes of Bytes(%s): %s, %d at %d", full(v), full(w), e, at)
		}
	}
}

// P3.4 and P3.8 at all keys of few bytes.
func TestAllShortKeys(t *testing.T) {
	told := map[api.Errno]int{}
	var try func(key []byte, left int)
	try = func(key []byte, left int) {
		told[holdFromBytes(t, key)]++
		for _, b := range []byte{0x00, 0x01, 0x02, 0x05, 0x20, 0x30, 0x40, 0x61, 0xff} {
			if left > 0 {
				try(append(key, b), left-1)
			}
		}
	}
	try(make([]byte, 0, 8), 6)
	for _, e := range []api.Errno{api.OK, api.ErrShort, api.ErrKey, api.ErrUtf, api.ErrTail} {
		if told[e] == 0 {
			t.Errorf("%d was never told", e)
		}
	}
}

// P3.4 and P3.8 at keys of which a byte or two are other ones, at beginnings of keys, and at keys with something behind or taken out.
func TestSpoiltKeys(t *testing.T) {
	d := newDice(9)
	told := map[api.Errno]int{}
	marks := []byte{0x00, 0x01, 0x02, 0x05, 0x10, 0x20, 0x30, 0x40, 0x50, 0x51, 0x61, 0xc3, 0xff}
	for range 60000 {
		key := keyOf(t, d.value(4))
		for range 1 + d.Intn(2) {
			i := d.Intn(len(key))
			switch d.Intn(5) {
			case 0:
				key = key[:i+1]
			case 1:
				key = append(key[:i:i], key[d.Intn(len(key)):]...)
			case 2:
				key = append(key[:i+1:i+1], key[d.Intn(i+1):]...)
			default:
				key[i] = marks[d.Intn(len(marks))]
			}
			if len(key) == 0 {
				break
			}
		}
		told[holdFromBytes(t, key)]++
	}
	for _, e := range []api.Errno{api.OK, api.ErrShort, api.ErrKey, api.ErrUtf, api.ErrName, api.ErrTail} {
		if told[e] < 50 {
			t.Errorf("%d was told %d times: that says little", e, told[e])
		}
	}
}

// holdFromBytes holds one answer against the words of 3.2, and what was taken against P3.8.
func holdFromBytes(t *testing.T, key []byte) api.Errno {
	t.Helper()
	v, e, at := order.FromBytes(key)
	if wantE, wantAt := faultOf(key); e != wantE || at != wantAt {
		t.Fatalf("FromBytes(%x): %d at %d, want %d at %d", key, e, at, wantE, wantAt)
	}
	if e != api.OK {
		if !isZero(v) {
			t.Fatalf("FromBytes(%x): %d beside %s", key, e, full(v))
		}
		return e
	}
	if back, e := order.Bytes(v); e != api.OK || !bytes.Equal(back, key) {
		t.Fatalf("Bytes of FromBytes(%x): %x, %d", key, back, e)
	}
	return e
}

// faultOf is the first fault of a key, found without making its value: open holds, of each list and object that has not ended, the names it has had (nil of a list).
func faultOf(key []byte) (api.Errno, int) {
	var open []map[string]bool
	at := 0
	for {
		if at >= len(key) {
			return api.ErrShort, len(key)
		}
		first := key[at]
		switch first {
		case 0x05, 0x50, 0x51:
			at++
		case 0x10:
			at += 9
			if at > len(key) {
				return api.ErrShort, len(key)
			}
		case 0x20:
			_, e, next := textAt(key, at+1)
			if e != api.OK {
				return e, next
			}
			at = next
		case 0x30, 0x40:
			if len(open) == 64 {
				return api.ErrDepth, at
			}
			at++
			if first == 0x30 {
				open = append(open, map[string]bool{})
			} else {
				open = append(open, nil)
			}
		default:
			return api.ErrKey, at
		}
		for len(open) > 0 && at < len(key) && key[at] == 1 {
			open = open[:len(open)-1]
			at++
		}
		switch {
		case len(open) == 0 && at < len(key):
			return api.ErrTail, at
		case len(open) == 0:
			return api.OK, 0
		case at == len(key):
			return api.ErrShort, at
		case key[at] != 2:
			return api.ErrKey, at
		}
		at++
		if names := open[len(open)-1]; names != nil {
			name, e, next := textAt(key, at)
			if e != api.OK {
				return e, next
			}
			if names[name] {
				return api.ErrName, at
			}
			names[name] = true
			at = next
		}
	}
}

// textAt is the text that begins at a place and where it has ended, or its fault and the place of that.
func textAt(key []byte, start int) (string, api.Errno, int) {
	text := ""
	for at := start; at < len(key); at++ {
		if key[at] != 0 {
			text += string(key[at : at+1])
			continue
		}
		at++
		switch {
		case at == len(key):
			return "", api.ErrShort, at
		case key[at] == 0xff:
			text += "\x00"
		case key[at] != 1:
			return "", api.ErrKey, at
		case !utf8.ValidString(text):
			return "", api.ErrUtf, start
		default:
			return text, api.OK, at + 1
		}
	}
	return "", api.ErrShort, len(key)
}
