package trie_test

import (
	"fmt"
	"hash/fnv"
	"math/rand"
	"reflect"
	"slices"
	"strings"
	"testing"

	"docket/api"
	"docket/jsonval"
	"docket/trie"
)

// The limits and the errors as the document numbers them, so that a test does not follow a number that another one stands for.
const (
	maxLeaf  = 4
	levels   = 16
	maxNodes = 1048576

	isOK   = 0
	isFull = 5
	isLost = 130
	isRise = 131
)

// zero names no node.
var zero api.Ref

// deed is what was done with a space: a Get of a Ref, or an Alloc of a node.
type deed struct {
	got  api.Ref
	laid *api.Node
}

func (x deed) String() string {
	if x.laid == nil {
		return fmt.Sprint("get ", x.got)
	}
	return fmt.Sprint("alloc ", *x.laid)
}

// tape is a space that writes down what is done with it. It keeps just what it is handed, and hands out just that, so that a call that writes into it is found out.
type tape struct {
	nodes map[api.Ref]api.Node
	made  int
	room  int // how many Allocs it takes yet
	log   []deed
}

const anyRoom = 1 << 62

func newTape() *tape { return &tape{nodes: map[api.Ref]api.Node{}, room: anyRoom} }

func (s *tape) Get(r api.Ref) (api.Node, bool) {
	s.log = append(s.log, deed{got: r})
	n, there := s.nodes[r]
	return n, there
}

func (s *tape) Alloc(n api.Node) (api.Ref, api.Errno) {
	s.log = append(s.log, deed{laid: &n})
	if s.room == 0 {
		return ref(-7, -7), isFull // beside an error a Ref has no meaning
	}
	s.room--
	s.made++
	r := ref(s.made, 1)
	s.nodes[r] = n
	return r, isOK
}

func (s *tape) forget() { s.log = nil }

// gets are the Refs that were got, and allocs how many Allocs there were.
func (s *tape) gets() []api.Ref {
	var all []api.Ref
	for _, x := range s.log {
		if x.laid == nil {
			all = append(all, x.got)
		}
	}
	return all
}

func (s *tape) allocs() int { return len(s.log) - len(s.gets()) }

// copy has the same nodes in memory of its own, and nothing written down.
func (s *tape) copy() *tape {
	c := &tape{nodes: map[api.Ref]api.Node{}, made: s.made, room: s.room}
	for r, n := range s.nodes {
		n.Items = slices.Clone(n.Items)
		c.nodes[r] = n
	}
	return c
}

// same tells whether two tell the same: lists without items are alike, whether nil or not.
func same(a, b any) bool { return reflect.DeepEqual(a, b) || fmt.Sprint(a) == fmt.Sprint(b) }

func ref(num, gen int) api.Ref { return api.Ref{Num: num, Gen: gen} }

func item(key string, version int) api.Item {
	return api.Item{Key: key, Version: int64(version), Value: jsonval.Named([]string{"n"}, jsonval.Of(int64(version)))}
}

func items(version int, keys ...string) []api.Item {
	var all []api.Item
	for _, k := range keys {
		all = append(all, item(k, version))
	}
	return all
}

// put lays items, gone takes them away: of rising keys, if these do.
func put(version int, keys ...string) []api.Edit {
	var all []api.Edit
	for _, k := range keys {
		all = append(all, api.Edit{Item: item(k, version)})
	}
	return all
}

func gone(keys ...string) []api.Edit {
	var all []api.Edit
	for _, k := range keys {
		all = append(all, api.Edit{Item: api.Item{Key: k}, Gone: true})
	}
	return all
}

// edits are several lists as one, by rising keys.
func edits(lists ...[]api.Edit) []api.Edit {
	all := slices.Concat(lists...)
	slices.SortFunc(all, func(a, b api.Edit) int { return strings.Compare(a.Item.Key, b.Item.Key) })
	return all
}

func sortedKeys(keys ...string) []string {
	all := slices.Clone(keys)
	slices.Sort(all)
	return all
}

// sumOf is a key's sum, by the library's own.
func sumOf(key string) uint64 {
	h := fnv.New64a()
	h.Write([]byte(key))
	return h.Sum64()
}

// digitOf is that of 13.1.
func digitOf(key string, level int) int { return int(sumOf(key) >> (4 * level) & 15) }

// nought begins keys of many equal digits: its own sum is 0, and so bytes of 0 behind it change nothing.
const nought = "^6neHuF\\UtgC+\\pRf`}t"

// ones are behind nought, and make a sum of which the digit at their level is 1, and all others 0.
func ones() [levels]string {
	return [levels]string{
		"%4<El-_`_c1TH&CLw;N;", "qJvU;.By&(2$`/V#{zoR", "vS0X:\"j=5USY])trv~/1", "TJNpADut?UN2-@[Fu%Ay",
		"xE~pEZ^R+sJ\\F9z/+'!u", ">t)F2mr0>L)w][A(`[\"6", "aHK\\iu~gGp#BV7'vq9_*", "iI/;bEbx$UE)!\\9i{&wU",
		"Q-ES,'r.#0ifCtB?0wTR", "Ll{cPEMxK1]S%)8c&Yk+", "CcmCXZ2`K[Z}Wc.GeNkX", "Q_i)`V.5?6Ul>Fe4sDtA",
		"$aCKK,l}Uh&8b*)OT3&7", "`7=vJ^<I\\/4D8OqW`1tf", "xb\"=XlK}u:CV8(T`6+/o", "q]hsB*8-;Ycoqy(tEd@w",
	}
}

// fives are behind nought too: they make sums of which only the last digit, 0 to 4, is not the same.
func fives() [5]string {
	return [5]string{"", ones()[levels-1], "T;LKX[9Q%*)=BqWZHZ<(", "S<B8S$JCk~N:+=C\"UG:%", "BmP]evd=,Ff[&q6u#{5|"}
}

// deep is the key number i of those whose digits are all 0, but 1 at that level; at the level -1 all are 0.
func deep(level, i int) string {
	k := nought + strings.Repeat("\x00", i)
	if level >= 0 {
		k += ones()[level]
	}
	return k
}

func deeps(level, n int) []string {
	var all []string
	for i := range n {
		all = append(all, deep(level, i))
	}
	return sortedKeys(all...)
}

// The keys of the tests are what they are said to be.
func TestDeepKeys(t *testing.T) {
	for level := -1; level < levels; level++ {
		for i := range 3 {
			for at := range levels {
				want := 0
				if at == level {
					want = 1
				}
				wantDigit(t, deep(level, i), at, want)
			}
		}
	}
	for digit, end := range fives() {
		for at := range levels - 1 {
			wantDigit(t, nought+end, at, 0)
		}
		wantDigit(t, nought+end, levels-1, digit)
	}
}

func wantDigit(t *testing.T, key string, level, want int) {
	t.Helper()
	if got := digitOf(key, level); got != want {
		t.Errorf("%q has the digit %d at the level %d; want %d", key, got, level, want)
	}
}

// mustChange also looks whether the call has changed what it was handed.
func mustChange(t *testing.T, s trie.Space, top api.Ref, l []api.Edit) (api.Ref, []api.Ref) {
	t.Helper()
	was := slices.Clone(l)
	next, retired, e := trie.Change(s, top, l)
	if e != isOK {
		t.Fatalf("Change by %v: %d", l, e)
	}
	if !same(l, was) {
		t.Fatalf("%v; it was %v", l, was)
	}
	return next, retired
}

// treeOf lays down the tree of these keys, each with the version 1.
func treeOf(t *testing.T, s trie.Space, keys ...string) api.Ref {
	t.Helper()
	top, retired := mustChange(t, s, zero, put(1, sortedKeys(keys...)...))
	if len(retired) != 0 {
		t.Fatalf("%v retired, of a tree of nothing", retired)
	}
	return top
}

func wantLog(t *testing.T, what string, s *tape, want ...deed) {
	t.Helper()
	if !same(s.log, want) {
		t.Errorf("%s:\n%v\nwant\n%v", what, s.log, want)
	}
	s.forget()
}

func got(refs ...api.Ref) []deed {
	var all []deed
	for _, r := range refs {
		all = append(all, deed{got: r})
	}
	return all
}

func laid(nodes ...api.Node) []deed {
	var all []deed
	for _, n := range nodes {
		all = append(all, deed{laid: &n})
	}
	return all
}

func leaf(l ...api.Item) api.Node { return api.Node{Leaf: true, Count: len(l), Items: l} }

func branch(count int, kids map[int]api.Ref) api.Node {
	n := api.Node{Count: count}
	for digit, r := range kids {
		n.Kids[digit] = r
	}
	return n
}

func wantItems(t *testing.T, what string, got []api.Item, e api.Errno, want ...api.Item) {
	t.Helper()
	if e != isOK || !same(got, want) {
		t.Errorf("%s: %v, %d; want %v", what, got, e, want)
	}
}

func wantAll(t *testing.T, s trie.Space, top api.Ref, want ...api.Item) {
	t.Helper()
	l, e := trie.All(s, top)
	wantItems(t, "All", l, e, want...)
}

func wantFind(t *testing.T, s trie.Space, top api.Ref, want api.Item) {
	t.Helper()
	if x, ok, e := trie.Find(s, top, want.Key); !ok || e != isOK || !same(x, want) {
		t.Errorf("Find: %v, %v, %d; want %v", x, ok, e, want)
	}
}

func wantNone(t *testing.T, s trie.Space, top api.Ref, key string) {
	t.Helper()
	if x, ok, e := trie.Find(s, top, key); ok || e != isOK || !same(x, api.Item{}) {
		t.Errorf("Find of %q: %v, %v, %d; want nothing", key, x, ok, e)
	}
}

// dice makes programs that are the same in each run.
type dice struct{ *rand.Rand }

func newDice(seed int64) dice { return dice{rand.New(rand.NewSource(seed))} }

// key is one of some hundred: short ones, and ones that part late or not at all.
func (d dice) key() string {
	if d.Intn(2) == 0 {
		return fmt.Sprint("k", d.Intn(60))
	}
	return deep(max(d.Intn(levels+8)-8, -1), d.Intn(4))
}

func (d dice) keys(n int) []string {
	var all []string
	for range n {
		all = append(all, d.key())
	}
	slices.Sort(all)
	return slices.Compact(all)
}

// edits lay about as many items as they take away, if tilt is 0; the more, the higher it is.
func (d dice) edits(n, version, tilt int) []api.Edit {
	var all []api.Edit
	for _, k := range d.keys(n) {
		x := api.Edit{Item: item(k, version), Gone: d.Intn(20) >= 10+tilt}
		if x.Gone && d.Intn(2) == 0 {
			x.Item = api.Item{Key: k}
		}
		all = append(all, x)
	}
	return all
}
