package order_test

import (
	"encoding/hex"
	"math"
	"math/rand"
	"slices"
	"strconv"
	"strings"
	"testing"

	"docket/api"
	"docket/jsonval"
	"docket/order"
)

func parsed(t *testing.T, text string) api.Value {
	t.Helper()
	v, e, at := jsonval.Parse(text)
	if e != api.OK {
		t.Fatalf("Parse(%q): %d at %d", text, e, at)
	}
	return v
}

func keyOf(t *testing.T, v api.Value) []byte {
	t.Helper()
	key, e := order.Bytes(v)
	if e != api.OK {
		t.Fatalf("Bytes(%s): %d", full(v), e)
	}
	return key
}

// bytesOf reads hexadecimal digits, with blanks between them where one likes.
func bytesOf(t *testing.T, digits string) []byte {
	t.Helper()
	b, err := hex.DecodeString(strings.ReplaceAll(digits, " ", ""))
	if err != nil {
		t.Fatal(digits, err)
	}
	return b
}

func isZero(v api.Value) bool {
	return v.Kind == 0 && v.Int == 0 && v.Text == "" && v.Names == nil && v.Items == nil
}

// full tells all of a value, also what its kind does not name.
func full(v api.Value) string {
	var b strings.Builder
	b.WriteString(strconv.Itoa(v.Kind) + "/" + strconv.FormatInt(v.Int, 10) + "/" + strconv.Quote(v.Text) + "(")
	for _, name := range v.Names {
		b.WriteString(strconv.Quote(name) + " ")
	}
	b.WriteString("|")
	for _, item := range v.Items {
		b.WriteString(full(item) + " ")
	}
	return b.String() + ")"
}

// nested is inner within n lists.
func nested(n int, inner api.Value) api.Value {
	for range n {
		inner = api.Value{Kind: api.List, Items: []api.Value{inner}}
	}
	return inner
}

// dice makes values that are the same in each run, and of few parts, so that beginnings and alike ones are many.
type dice struct{ *rand.Rand }

func newDice(seed int64) dice { return dice{rand.New(rand.NewSource(seed))} }

func (d dice) number() int64 {
	numbers := []int64{0, 1, -1, 2, 255, 256, -256, 1 << 32, -1 << 32, math.MaxInt64, math.MinInt64, math.MaxInt64 - 1, math.MinInt64 + 1}
	return numbers[d.Intn(len(numbers))]
}

func (d dice) text() string {
	parts := []string{"a", "b", "\x00", "\x01", "\x02", "\x7f", "é", "\U0010ffff", "\ufffd"}
	text := ""
	for range d.Intn(4) {
		text += parts[d.Intn(len(parts))]
	}
	return text
}

func (d dice) value(deep int) api.Value {
	switch kind := d.Intn(10); {
	case deep > 0 && kind < 3:
		var items []api.Value
		for range d.Intn(4) {
			items = append(items, d.value(deep-1))
		}
		return jsonval.Listed(items...)
	case deep > 0 && kind < 6:
		return d.object(deep)
	case kind == 6:
		return jsonval.Flag(d.Intn(2) == 0)
	case kind == 7:
		return api.Value{}
	case kind == 8:
		return jsonval.Word(d.text())
	}
	return jsonval.Of(d.number())
}

func (d dice) object(deep int) api.Value {
	var names []string
	var items []api.Value
	for range d.Intn(4) {
		if name := d.text(); !slices.Contains(names, name) {
			names, items = append(names, name), append(items, d.value(deep-1))
		}
	}
	return jsonval.Named(names, items...)
}

// spoilt has values among its parts that jsonval.Check refuses.
func (d dice) spoilt(deep int) api.Value {
	v := d.value(deep)
	v.Int, v.Text = int64(d.Intn(2)), []string{"", "a", "\xff"}[d.Intn(3)]
	v.Kind = d.Intn(10) - 1
	for range d.Intn(3) {
		v.Names = append(v.Names, []string{"a", "b", "\xff"}[d.Intn(3)])
	}
	for range d.Intn(3) {
		if deep > 0 {
			v.Items = append(v.Items, d.spoilt(deep-1))
		}
	}
	return v
}

// near is v with one of its parts thrown anew, so that much of the two is alike.
func (d dice) near(v api.Value) api.Value {
	if len(v.Items) == 0 || d.Intn(4) == 0 {
		return d.value(2)
	}
	v.Items = slices.Clone(v.Items)
	if i := d.Intn(len(v.Items)); d.Intn(3) > 0 {
		v.Items[i] = d.near(v.Items[i])
		return v
	}
	last := len(v.Items) - 1
	v.Items = v.Items[:last]
	if v.Kind == api.Object {
		v.Names = v.Names[:last]
	}
	return v
}

// pair is two values that are often much alike.
func (d dice) pair() (api.Value, api.Value) {
	v := d.value(4)
	switch d.Intn(4) {
	case 0:
		return v, d.value(4)
	case 1:
		return v, jsonval.Copy(v)
	}
	return v, d.near(v)
}
