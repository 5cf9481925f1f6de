package cursor_test

import (
	"fmt"
	"hash/fnv"
	"maps"
	"math/rand"
	"slices"
	"strings"
	"testing"

	"docket/api"
	"docket/cursor"
	"docket/filter"
	"docket/jsonval"
	"docket/shape"
	"docket/trie"
)

// The limits and the errors as the document numbers them, so that a test does not follow a number that another one stands for.
const (
	maxBatch   = 256
	maxCursors = 4
	maxNodes   = 1048576
	levels     = 16

	isOK    = 0
	isLost  = 130
	isBatch = 190
)

func TestNumbers(t *testing.T) {
	if api.MaxBatch != maxBatch || api.MaxCursors != maxCursors || api.ErrBatch != isBatch || api.ErrLost != isLost {
		t.Error(api.MaxBatch, api.MaxCursors, api.ErrBatch, api.ErrLost)
	}
}

// zero names no node.
var zero api.Ref

func ref(num, gen int) api.Ref { return api.Ref{Num: num, Gen: gen} }

// nums are Refs of the generation 1.
func nums(all ...int) []api.Ref {
	var refs []api.Ref
	for _, n := range all {
		refs = append(refs, ref(n, 1))
	}
	return refs
}

// tape is a space that writes down what is got. It hands out just what it has, so that a call that writes into it is found out.
type tape struct {
	nodes map[api.Ref]api.Node
	made  int
	gets  []api.Ref
}

func newTape() *tape { return &tape{nodes: map[api.Ref]api.Node{}} }

func (s *tape) Get(r api.Ref) (api.Node, bool) {
	s.gets = append(s.gets, r)
	n, there := s.nodes[r]
	return n, there
}

func (s *tape) Alloc(n api.Node) (api.Ref, api.Errno) {
	s.made++
	r := ref(s.made, 1)
	s.nodes[r] = n
	return r, isOK
}

// copy has the same nodes in memory of its own, and nothing written down.
func (s *tape) copy() *tape {
	c := &tape{nodes: maps.Clone(s.nodes), made: s.made}
	for r, n := range c.nodes {
		n.Items = slices.Clone(n.Items)
		c.nodes[r] = n
	}
	return c
}

func (s *tape) forget() []api.Ref {
	gets := s.gets
	s.gets = nil
	return gets
}

func wantGets(t *testing.T, what string, s *tape, want ...api.Ref) {
	t.Helper()
	if gets := s.forget(); !slices.Equal(gets, want) {
		t.Errorf("%s: %v were got; want %v", what, gets, want)
	}
}

func leaf(l ...api.Item) api.Node { return api.Node{Leaf: true, Count: len(l), Items: l} }

func branch(count int, kids map[int]api.Ref) api.Node {
	n := api.Node{Count: count}
	for digit, r := range kids {
		n.Kids[digit] = r
	}
	return n
}

func item(key string, n int) api.Item {
	return api.Item{Key: key, Version: int64(100 + n), Value: jsonval.Named([]string{"n", "m"}, jsonval.Of(int64(n)), jsonval.Of(int64(n%3)))}
}

func items(keys ...string) []api.Item {
	var all []api.Item
	for i, k := range keys {
		all = append(all, item(k, i))
	}
	return all
}

// letters are items whose Keys are the letters of a text.
func letters(text string) []api.Item { return items(strings.Split(text, "")...) }

// lay is the tree of items, in any order.
func lay(t testing.TB, s trie.Space, l []api.Item) api.Ref {
	t.Helper()
	return change(t, s, zero, l, nil)
}

// change lays items and takes others away.
func change(t testing.TB, s trie.Space, top api.Ref, put []api.Item, gone []string) api.Ref {
	t.Helper()
	var edits []api.Edit
	for _, x := range put {
		edits = append(edits, api.Edit{Item: x})
	}
	for _, k := range gone {
		edits = append(edits, api.Edit{Item: api.Item{Key: k}, Gone: true})
	}
	slices.SortFunc(edits, func(a, b api.Edit) int { return strings.Compare(a.Item.Key, b.Item.Key) })
	next, _, e := trie.Change(s, top, edits)
	if e != isOK {
		t.Fatalf("Change: %d", e)
	}
	return next
}

// laid is a tape with the tree of items, of which nothing is written down yet.
func laid(t testing.TB, l []api.Item) (*tape, api.Ref) {
	t.Helper()
	s := newTape()
	top := lay(t, s, l)
	s.forget()
	return s, top
}

func refsOf(t testing.TB, s *tape, top api.Ref) []api.Ref {
	t.Helper()
	refs, e := trie.Refs(s.copy(), top)
	if e != isOK {
		t.Fatalf("Refs: %d", e)
	}
	return refs
}

func parsed(t testing.TB, text string) api.Value {
	t.Helper()
	v, e, _ := jsonval.Parse(text)
	if e != isOK {
		t.Fatalf("%s: %d", text, e)
	}
	return v
}

// taking and letting read a filter and fields; of no text none.
func taking(t testing.TB, text string) *filter.Filter {
	t.Helper()
	if text == "" {
		return nil
	}
	f, e := filter.Parse(parsed(t, text))
	if e != isOK {
		t.Fatalf("%s: %d", text, e)
	}
	return f
}

func letting(t testing.TB, text string) *shape.Fields {
	t.Helper()
	if text == "" {
		return nil
	}
	f, e := shape.ParseFields(parsed(t, text))
	if e != isOK {
		t.Fatalf("%s: %d", text, e)
	}
	return f
}

func open(t testing.TB, query, fields string, batch int) *cursor.Cursor {
	t.Helper()
	c, e := cursor.New(taking(t, query), letting(t, fields), batch)
	if e != isOK || c == nil {
		t.Fatalf("New of the batch %d: %v, %d", batch, c, e)
	}
	return c
}

// keysOf are the Keys of items, and ids the Ids of documents, one behind the other.
func keysOf(l []api.Item) []string {
	var all []string
	for _, x := range l {
		all = append(all, x.Key)
	}
	return all
}

func ids(l []api.Doc) string {
	var all []string
	for _, d := range l {
		all = append(all, d.Id)
	}
	return strings.Join(all, "")
}

// text tells all of some documents.
func text(l []api.Doc) string { return fmt.Sprint(l) }

// state is what a cursor tells of itself.
func state(c *cursor.Cursor) string { return fmt.Sprint(c.Looked(), c.Done()) }

func wantState(t *testing.T, what string, c *cursor.Cursor, looked int, done bool) {
	t.Helper()
	if c.Looked() != looked || c.Done() != done {
		t.Errorf("%s: %d looked at, done %v; want %d, %v", what, c.Looked(), c.Done(), looked, done)
	}
}

// wantNext also looks whether Done tells what Next does.
func wantNext(t *testing.T, c *cursor.Cursor, s trie.Space, top api.Ref, want string, wantDone bool) {
	t.Helper()
	docs, done, e := c.Next(s, top)
	if ids(docs) != want || done != wantDone || e != isOK || c.Done() != done {
		t.Errorf("Next: %q, %v, %d, done %v; want %q, %v", ids(docs), done, e, c.Done(), want, wantDone)
	}
}

func wantFrom(t *testing.T, c *cursor.Cursor, l []api.Item, want string, wantDone bool) {
	t.Helper()
	docs, done := c.From(l)
	if ids(docs) != want || done != wantDone || c.Done() != done {
		t.Errorf("From: %q, %v, done %v; want %q, %v", ids(docs), done, c.Done(), want, wantDone)
	}
}

// wantLost: a Next that is lost tells nothing else, and leaves the cursor as it was.
func wantLost(t *testing.T, what string, c *cursor.Cursor, s trie.Space, top api.Ref) {
	t.Helper()
	was := *c
	if docs, done, e := c.Next(s, top); docs != nil || done || e != isLost {
		t.Errorf("%s: %q, %v, %d", what, ids(docs), done, e)
	}
	if *c != was {
		t.Errorf("%s: the cursor is not as it was: %v, %v", what, *c, was)
	}
}

// sumOf is a key's sum, by the library's own.
func sumOf(key string) uint64 {
	h := fnv.New64a()
	h.Write([]byte(key))
	return h.Sum64()
}

// digitOf is that of 13.1.
func digitOf(key string, level int) int { return int(sumOf(key) >> (4 * level) & 15) }

// nought begins keys of many equal digits: its own sum is 0, and so bytes of 0 behind it change nothing.
const nought = "^6neHuF\\UtgC+\\pRf`}t"

// ones are behind nought, and make a sum of which the digit at their level is 1, and all others 0.
func ones() [levels]string {
	return [levels]string{
		"%4<El-_`_c1TH&CLw;N;", "qJvU;.By&(2$`/V#{zoR", "vS0X:\"j=5USY])trv~/1", "TJNpADut?UN2-@[Fu%Ay",
		"xE~pEZ^R+sJ\\F9z/+'!u", ">t)F2mr0>L)w][A(`[\"6", "aHK\\iu~gGp#BV7'vq9_*", "iI/;bEbx$UE)!\\9i{&wU",
		"Q-ES,'r.#0ifCtB?0wTR", "Ll{cPEMxK1]S%)8c&Yk+", "CcmCXZ2`K[Z}Wc.GeNkX", "Q_i)`V.5?6Ul>Fe4sDtA",
		"$aCKK,l}Uh&8b*)OT3&7", "`7=vJ^<I\\/4D8OqW`1tf", "xb\"=XlK}u:CV8(T`6+/o", "q]hsB*8-;Ycoqy(tEd@w",
	}
}

// deep is the key number i of those whose digits are all 0, but 1 at that level; at the level -1 all are 0.
func deep(level, i int) string {
	k := nought + strings.Repeat("\x00", i)
	if level >= 0 {
		k += ones()[level]
	}
	return k
}

func deeps(level, n int) []string {
	var all []string
	for i := range n {
		all = append(all, deep(level, i))
	}
	slices.Sort(all)
	return all
}

// The keys of the tests are what they are said to be.
func TestKeys(t *testing.T) {
	for level := -1; level < levels; level++ {
		for i := range 3 {
			for at := range levels {
				want := 0
				if at == level {
					want = 1
				}
				if got := digitOf(deep(level, i), at); got != want {
					t.Errorf("%q has the digit %d at the level %d; want %d", deep(level, i), got, at, want)
				}
			}
		}
	}
	for key, want := range map[string]int{"a": 12, "b": 5, "c": 2, "d": 3, "e": 0, "q": 12, "r": 5, "s": 2, "u": 0, "x": 7} {
		if got := digitOf(key, 0); got != want {
			t.Errorf("%q has the digit %d at the level 0; want %d", key, got, want)
		}
	}
}

// dice makes programs that are the same in each run.
type dice struct{ *rand.Rand }

func newDice(seed int64) dice { return dice{rand.New(rand.NewSource(seed))} }

func pick[T any](d dice, from ...T) T { return from[d.Intn(len(from))] }

// key is one of some hundred: short ones, and ones that part late or not at all.
func (d dice) key() string {
	if d.Intn(2) == 0 {
		return fmt.Sprint("k", d.Intn(80))
	}
	return deep(max(d.Intn(levels+8)-8, -1), d.Intn(4))
}

// items are at most n, of unlike Keys, in any order.
func (d dice) items(n int) []api.Item {
	all := map[string]api.Item{}
	for range n {
		x := item(d.key(), d.Intn(10))
		all[x.Key] = x
	}
	l := slices.SortedFunc(maps.Values(all), func(a, b api.Item) int { return strings.Compare(a.Key, b.Key) })
	d.Shuffle(len(l), func(i, k int) { l[i], l[k] = l[k], l[i] })
	return l
}

// asked is what a cursor may be made of, the batch too.
type asked struct {
	query, fields string
	batch         int
}

func (d dice) asked() asked {
	return asked{
		query:  pick(d, "", "", `{}`, `{"n":{"$gte":5}}`, `{"m":1}`, `{"n":{"$lt":0}}`, `{"n":3}`),
		fields: pick(d, "", `{}`, `{"n":1}`, `{"m":0}`, `{"none":1}`),
		batch:  pick(d, 1, 1, 2, 3, 5, 8, 20, 100, maxBatch),
	}
}
