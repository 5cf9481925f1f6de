package trie_test

import (
	"fmt"
	"maps"
	"slices"
	"strings"
	"testing"

	"docket/api"
	"docket/trie"
)

// The chapter's words, written plainly: each call over a tape, which writes down in which order what is got and laid.

type words struct {
	*tape
	got int
}

// lost is thrown where a call ends at once.
type lost struct{ why api.Errno }

// get is at a level. What is got twice at one place is one node.
func (w *words) get(r api.Ref, level int, twice bool) api.Node {
	if !twice {
		if w.got == maxNodes {
			panic(lost{isLost})
		}
		w.got++
	}
	n, there := w.Get(r)
	if !there {
		panic(lost{isLost})
	}
	if level == levels && !n.Leaf {
		panic(lost{isLost})
	}
	return n
}

func (w *words) alloc(n api.Node) api.Ref {
	r, e := w.Alloc(n)
	if e != isOK {
		panic(lost{e})
	}
	return r
}

// caught tells what was thrown in f.
func caught(f func()) (e api.Errno) {
	defer func() {
		if x, is := recover().(lost); is {
			e = x.why
		}
	}()
	f()
	return isOK
}

func sorted(l []api.Item) []api.Item {
	l = slices.Clone(l)
	slices.SortStableFunc(l, func(a, b api.Item) int { return strings.Compare(a.Key, b.Key) })
	return l
}

func (w *words) find(r api.Ref, level int, key string) (api.Item, bool) {
	if r == zero {
		return api.Item{}, false
	}
	n := w.get(r, level, false)
	if !n.Leaf {
		return w.find(n.Kids[digitOf(key, level)], level+1, key)
	}
	for _, x := range n.Items {
		if x.Key == key {
			return x, true
		}
	}
	return api.Item{}, false
}

func (w *words) all(r api.Ref, level int) []api.Item {
	if r == zero {
		return nil
	}
	n := w.get(r, level, false)
	if n.Leaf {
		return slices.Clone(n.Items)
	}
	var l []api.Item
	for _, kid := range n.Kids {
		l = append(l, w.all(kid, level+1)...)
	}
	return l
}

func (w *words) refs(r api.Ref, level int) []api.Ref {
	if r == zero {
		return nil
	}
	n := w.get(r, level, false)
	l := []api.Ref{r}
	for _, kid := range n.Kids {
		if !n.Leaf {
			l = append(l, w.refs(kid, level+1)...)
		}
	}
	return l
}

func (w *words) some(r api.Ref, level int, keys []string) []api.Item {
	if len(keys) == 0 || r == zero {
		return nil
	}
	n := w.get(r, level, false)
	var l []api.Item
	if n.Leaf {
		for _, x := range n.Items {
			if slices.Contains(keys, x.Key) {
				l = append(l, x)
			}
		}
		return l
	}
	for digit, kid := range n.Kids {
		its := slices.DeleteFunc(slices.Clone(keys), func(k string) bool { return digitOf(k, level) != digit })
		l = append(l, w.some(kid, level+1, its)...)
	}
	return l
}

// plan is what becomes of a tree: it stays, or its Ref is of no meaning, and it is a leaf (of no items: nothing), or a branch.
type plan struct {
	stays  bool
	looked bool
	ref    api.Ref
	leaf   bool
	items  []api.Item
	count  int
	had    int
	kids   [16]*plan
}

// planOf is the tree of a set of items: 13.1.
func planOf(l []api.Item, level, had int) *plan {
	p := &plan{count: len(l), had: had}
	if len(l) <= maxLeaf || level == levels {
		p.leaf, p.items = true, sorted(l)
		return p
	}
	for digit := range p.kids {
		its := slices.DeleteFunc(slices.Clone(l), func(x api.Item) bool { return digitOf(x.Key, level) != digit })
		p.kids[digit] = planOf(its, level+1, 0)
	}
	return p
}

// known are the items of a plan of which nothing need be got.
func (p *plan) known() []api.Item {
	l := slices.Clone(p.items)
	for _, kid := range p.kids {
		if kid != nil && !kid.stays {
			l = append(l, kid.known()...)
		}
	}
	return l
}

// change also tells what is retired, in its order.
func (w *words) change(r api.Ref, level int, l []api.Edit) (*plan, []api.Ref) {
	lays := map[string]api.Item{}
	takes := map[string]api.Edit{}
	for _, x := range l {
		takes[x.Item.Key] = x
		if !x.Gone {
			lays[x.Item.Key] = x.Item
		}
	}
	if len(l) == 0 || r == zero && len(lays) == 0 {
		return &plan{stays: true, ref: r}, nil
	}
	if r == zero {
		return planOf(slices.Collect(maps.Values(lays)), level, 0), nil
	}
	n := w.get(r, level, false)
	if !n.Leaf {
		return w.changeBranch(r, n, level, l)
	}
	rest := slices.DeleteFunc(slices.Clone(n.Items), func(x api.Item) bool {
		_, taken := takes[x.Key]
		return taken
	})
	if len(lays) == 0 && len(rest) == len(n.Items) {
		return &plan{stays: true, looked: true, ref: r}, nil
	}
	return planOf(slices.AppendSeq(rest, maps.Values(lays)), level, n.Count), []api.Ref{r}
}

func (w *words) changeBranch(r api.Ref, n api.Node, level int, l []api.Edit) (*plan, []api.Ref) {
	p := &plan{count: n.Count, had: n.Count}
	retired := []api.Ref{r}
	stay := true
	for digit := range p.kids {
		its := slices.DeleteFunc(slices.Clone(l), func(x api.Edit) bool { return digitOf(x.Item.Key, level) != digit })
		kid, more := w.change(n.Kids[digit], level+1, its)
		p.kids[digit], retired = kid, append(retired, more...)
		if !kid.stays {
			stay = false
			p.count += kid.count - kid.had
		}
	}
	if stay {
		return &plan{stays: true, looked: true, ref: r}, nil
	}
	if p.count > maxLeaf {
		return p, retired
	}
	var of []api.Item
	for _, kid := range p.kids {
		if !kid.stays {
			of = append(of, kid.known()...)
		} else if kid.ref != zero {
			of = append(of, w.get(kid.ref, level+1, kid.looked).Items...)
			retired = append(retired, kid.ref)
		}
	}
	return &plan{leaf: true, items: sorted(of), count: len(of), had: n.Count}, retired
}

func (w *words) lay(p *plan) api.Ref {
	if p.stays {
		return p.ref
	}
	if p.leaf && len(p.items) == 0 {
		return zero
	}
	n := api.Node{Leaf: p.leaf, Count: p.count, Items: p.items}
	for digit, kid := range p.kids {
		if kid != nil {
			n.Kids[digit] = w.lay(kid)
		}
	}
	return w.alloc(n)
}

// ask is what a call is handed.
type ask struct {
	top   api.Ref
	key   string
	keys  []string
	edits []api.Edit
}

const (
	toFind = iota
	toAll
	toSome
	toChange
	toRefs
	allCalls
)

func nameOf(call int) string {
	return [allCalls]string{"Find", "All", "Some", "Change", "Refs"}[call]
}

// answer is what any of the calls tells.
type answer struct {
	item  api.Item
	there bool
	items []api.Item
	ref   api.Ref
	refs  []api.Ref
	why   api.Errno
}

func (a ask) built(call int, s trie.Space) answer {
	var x answer
	switch call {
	case toFind:
		x.item, x.there, x.why = trie.Find(s, a.top, a.key)
	case toAll:
		x.items, x.why = trie.All(s, a.top)
	case toSome:
		x.items, x.why = trie.Some(s, a.top, a.keys)
	case toChange:
		x.ref, x.refs, x.why = trie.Change(s, a.top, a.edits)
	case toRefs:
		x.refs, x.why = trie.Refs(s, a.top)
	}
	return x
}

func (a ask) plain(call int, s *tape) answer {
	w := &words{tape: s}
	var x answer
	x.why = caught(func() {
		switch call {
		case toFind:
			x.item, x.there = w.find(a.top, 0, a.key)
		case toAll:
			x.items = sorted(w.all(a.top, 0))
		case toSome:
			mustRise(a.keys)
			x.items = sorted(w.some(a.top, 0, a.keys))
		case toChange:
			mustRise(keysOf(a.edits))
			p, retired := w.change(a.top, 0, a.edits)
			x.ref, x.refs = w.lay(p), retired
		case toRefs:
			x.refs = w.refs(a.top, 0)
		}
	})
	return x
}

func keysOf(l []api.Edit) []string {
	var keys []string
	for _, x := range l {
		keys = append(keys, x.Item.Key)
	}
	return keys
}

func mustRise(keys []string) {
	if !slices.IsSorted(keys) || len(slices.Compact(slices.Clone(keys))) != len(keys) {
		panic(lost{isRise})
	}
}

// twins are two spaces of the same nodes: one for the calls themselves, and one for the words.
type twins struct{ built, plain *tape }

// want makes one call of both, and tells the answer.
func (w twins) want(t *testing.T, call int, a ask) answer {
	t.Helper()
	w.built.forget()
	w.plain.forget()
	was := ask{a.top, a.key, slices.Clone(a.keys), slices.Clone(a.edits)}
	got, want := a.built(call, w.built), a.plain(call, w.plain)
	if !same(got, want) || !same(w.built.log, w.plain.log) {
		t.Fatalf("%s of %v in\n%v\nanswers %v\nby %v;\nwant %v\nby %v", nameOf(call), a, w.built.nodes, got, w.built.log, want, w.plain.log)
	}
	if !same(a, was) {
		t.Fatalf("%s has changed what it was handed: %v; it was %v", nameOf(call), a, was)
	}
	return got
}

// wantSame looks whether they still have the same nodes.
func (w twins) wantSame(t *testing.T) {
	t.Helper()
	if !same(w.built.nodes, w.plain.nodes) {
		t.Fatalf("%v\nwant\n%v", w.built.nodes, w.plain.nodes)
	}
}

func (w twins) room(n int) { w.built.room, w.plain.room = n, n }

// count tells which cases there were, so that a test knows that it looked at all of them.
func count(seen map[string]int, call int, x answer) {
	seen[fmt.Sprint(nameOf(call), ": ", int(x.why))]++
}

func wantSeen(t *testing.T, seen map[string]int, least int, whats ...string) {
	t.Helper()
	for _, what := range whats {
		if seen[what] < least {
			t.Errorf("%s: %d times only, of %v", what, seen[what], seen)
		}
	}
}

// ask is of a tree's top, sometimes with keys that do not rise.
func (d dice) ask(top api.Ref, version, most, tilt int) ask {
	a := ask{top: top, key: d.key(), keys: d.keys(d.Intn(most)), edits: d.edits(d.Intn(most), version, tilt)}
	if n := len(a.keys); n > 1 && d.Intn(12) == 0 {
		i, k := d.Intn(n), d.Intn(n)
		a.keys[i] = a.keys[k]
	}
	if n := len(a.edits); n > 1 && d.Intn(12) == 0 {
		i, k := d.Intn(n), d.Intn(n)
		a.edits[i], a.edits[k] = a.edits[k], a.edits[i]
	}
	return a
}

// P13.2 to P13.5 and P13.11, at right trees: what each call answers, and what it does with the space.
func TestWords(t *testing.T) {
	d := newDice(1)
	seen := map[string]int{}
	for range 250 {
		w := twins{newTape(), newTape()}
		tops := []api.Ref{zero}
		most := []int{3, 8, 40}[d.Intn(3)]
		for i := range 40 {
			tilt := 5
			if i%20 > 10 {
				tilt = -5
			}
			a := d.ask(tops[d.Intn(len(tops))], i+1, most, tilt)
			if d.Intn(3) > 0 {
				a.top = tops[len(tops)-1]
			}
			for call := range allCalls {
				if d.Intn(10) == 0 {
					w.room(d.Intn(4))
				}
				x := w.want(t, call, a)
				w.room(anyRoom)
				if call == toChange && x.why == isOK {
					tops = append(tops, x.ref)
				}
				count(seen, call, x)
			}
		}
		w.wantSame(t)
	}
	wantSeen(t, seen, 100, "Find: 0", "All: 0", "Some: 0", "Some: 131", "Change: 0", "Change: 131", "Change: 5", "Refs: 0")
}

// leaf is any: its items need not rise, nor be few, nor of its place, nor as many as it says.
func (d dice) leaf() api.Node {
	n := api.Node{Leaf: true}
	for range d.Intn(7) {
		n.Items = append(n.Items, item(d.key(), d.Intn(1000)))
	}
	n.Count = len(n.Items)
	if d.Intn(3) == 0 {
		n.Count = d.Intn(9) - 2
	}
	if d.Intn(8) == 0 {
		n.Kids[d.Intn(16)] = ref(d.Intn(40), 1)
	}
	return n
}

// branch is any branch, mostly with kids behind it, and seldom with one that is ahead of it, or of nowhere.
func (d dice) branch(num, nodes int) api.Node {
	n := api.Node{Count: d.Intn(16) - 3}
	for _, digit := range []int{0, 1, d.Intn(16), d.Intn(16), d.Intn(16)} {
		switch {
		case d.Intn(4) == 0:
		case d.Intn(60) == 0:
			n.Kids[digit] = ref(d.Intn(nodes+2), d.Intn(2))
		default:
			n.Kids[digit] = ref(num+1+d.Intn(min(nodes-num, 4)), 1)
		}
	}
	if d.Intn(8) == 0 {
		n.Items = items(d.Intn(9), d.key(), d.key())
	}
	return n
}

// places are how many there are below a Ref, to the level behind which nothing is gone to; at most as many as are asked for.
func (s *tape) places(r api.Ref, level, most int) int {
	n, there := s.nodes[r]
	if !there || n.Leaf || level == levels {
		return 1
	}
	all := 1
	for _, kid := range n.Kids {
		if kid != zero && all < most {
			all += s.places(kid, level+1, most-all)
		}
	}
	return all
}

// anything is a space of any nodes. None of its trees is of many places.
func (d dice) anything() *tape {
	s := newTape()
	s.made = 3 + d.Intn(30)
	for num := 1; num <= s.made; num++ {
		if num == s.made || d.Intn(3) == 0 && num > 1 {
			s.nodes[ref(num, 1)] = d.leaf()
		} else {
			s.nodes[ref(num, 1)] = d.branch(num, s.made)
		}
		if d.Intn(80) == 0 {
			delete(s.nodes, ref(num, 1))
		}
	}
	for num := range 3 {
		if s.places(ref(num+1, 1), 0, 250) >= 250 {
			return d.anything()
		}
	}
	return s
}

// P13.2 to P13.5 and P13.11, at trees that are not right: what 13.2 says step by step, and no panic.
func TestWordsOfOthers(t *testing.T) {
	d := newDice(2)
	seen := map[string]int{}
	for range 3000 {
		s := d.anything()
		w := twins{s, s.copy()}
		for range 4 {
			a := d.ask(ref(1+d.Intn(3), 1), 5, 16, 0)
			for call := range allCalls {
				count(seen, call, w.want(t, call, a))
			}
		}
		w.wantSame(t)
	}
	wantSeen(t, seen, 200, "Find: 0", "All: 0", "Some: 0", "Change: 0", "Refs: 0", "Find: 130", "All: 130", "Some: 130", "Change: 130", "Refs: 130")
}
