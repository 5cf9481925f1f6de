package trie_test

import (
	"slices"
	"testing"

	"docket/api"
	"docket/trie"
)

// The digits of one letter at the level 0: a c, b 5, c 2, d 3, e 0, q c, u 0. At the level 1: a 8, q b.

// five lays down the tree of a to e: its leaves are 1 to 5, by their digits e, c, d, b, a, and the branch is 6.
func five(t *testing.T) (*tape, api.Ref) {
	t.Helper()
	s := newTape()
	top := treeOf(t, s, "a", "b", "c", "d", "e")
	s.forget()
	return s, top
}

func one(key string, version int) api.Node { return leaf(item(key, version)) }

func wantChange(t *testing.T, s trie.Space, top api.Ref, l []api.Edit, want api.Ref, wantRetired ...api.Ref) {
	t.Helper()
	if next, retired := mustChange(t, s, top, l); next != want || !slices.Equal(retired, wantRetired) {
		t.Errorf("%v, %v retired; want %v, %v", next, retired, want, wantRetired)
	}
}

// nums are Refs of the generation 1.
func nums(all ...int) []api.Ref {
	var refs []api.Ref
	for _, n := range all {
		refs = append(refs, ref(n, 1))
	}
	return refs
}

// The chapter's example 1.
func TestOneAndTwo(t *testing.T) {
	s := newTape()
	wantChange(t, s, zero, put(1, "a"), ref(1, 1))
	wantLog(t, "one", s, laid(one("a", 1))...)
	wantChange(t, s, ref(1, 1), put(2, "b"), ref(2, 1), ref(1, 1))
	wantLog(t, "two", s, slices.Concat(got(ref(1, 1)), laid(leaf(item("a", 1), item("b", 2))))...)
}

// Example 2: five are a branch, four are a leaf.
func TestFiveAndFour(t *testing.T) {
	s := newTape()
	wantChange(t, s, zero, put(1, "a", "b", "c", "d", "e"), ref(6, 1))
	top := branch(5, map[int]api.Ref{0: ref(1, 1), 2: ref(2, 1), 3: ref(3, 1), 5: ref(4, 1), 12: ref(5, 1)})
	wantLog(t, "five", s, laid(one("e", 1), one("c", 1), one("d", 1), one("b", 1), one("a", 1), top)...)
	wantChange(t, s, ref(6, 1), gone("c"), ref(7, 1), nums(6, 2, 1, 3, 4, 5)...)
	wantLog(t, "four", s, slices.Concat(got(nums(6, 2, 1, 3, 4, 5)...), laid(leaf(items(1, "a", "b", "d", "e")...)))...)
}

// Example 3: x is not there; and keys that fall.
func TestNothingTakenAway(t *testing.T) {
	s, top := five(t)
	wantChange(t, s, top, gone("x"), top) // of the digit 7, where nothing is
	wantLog(t, "of no kid", s, got(top)...)
	wantChange(t, s, top, gone("q"), top) // of the digit of a
	wantLog(t, "of a leaf", s, got(nums(6, 5)...)...)
	wantChange(t, s, top, gone("f", "q", "u", "x"), top)
	wantLog(t, "of several", s, got(nums(6, 1, 5)...)...)
	wantRise(t, s, top, put(1, "b", "a"))
}

func wantRise(t *testing.T, s *tape, top api.Ref, l []api.Edit) {
	t.Helper()
	next, retired, e := trie.Change(s, top, l)
	if next != zero || retired != nil || e != isRise {
		t.Errorf("Change by %v: %v, %v, %d", l, next, retired, e)
	}
	found, e := trie.Some(s, top, keysOf(l))
	if found != nil || e != isRise {
		t.Errorf("Some of %v: %v, %d", keysOf(l), found, e)
	}
	wantLog(t, "keys that do not rise", s)
}

// P13.4, P13.11: keys that do not rise, byte by byte, are told first, whatever else is wrong; nothing is got then.
func TestRise(t *testing.T) {
	s, top := five(t)
	for _, top := range []api.Ref{top, zero, ref(99, 1), ref(0, 1)} {
		for _, keys := range [][]string{
			{"a", "a"}, {"b", "a"}, {"", ""}, {"a", "b", "b"}, {"a", "c", "b", "d"}, {"a", ""}, {"ab", "a"}, {"a", "b", "c", "a"},
			{"\x80", "a"}, {"é", "z"}, {"x", "x", "y"}, {"aa", "aB"}, {"b", "aa"},
		} {
			wantRise(t, s, top, put(1, keys...))
			wantRise(t, s, top, gone(keys...))
			wantRise(t, s, top, slices.Concat(put(1, keys[:1]...), gone(keys[1:]...)))
		}
	}
	for _, keys := range [][]string{{"", "a"}, {"a", "aa", "b"}, {"B", "a"}, {"a", "a\x00"}, {"z", "\x80", "\xff", "\xff\x00"}} {
		if _, e := trie.Some(s, top, keys); e != isOK {
			t.Errorf("Some of %q: %d", keys, e)
		}
		mustChange(t, s, top, put(1, keys...))
	}
}

// P13.2.
func TestFind(t *testing.T) {
	s, top := five(t)
	wantNone(t, s, zero, "a")
	wantLog(t, "of the zero Ref", s)
	wantFind(t, s, top, item("b", 1))
	wantLog(t, "one that is there", s, got(nums(6, 4)...)...)
	wantNone(t, s, top, "x")
	wantLog(t, "of no kid", s, got(top)...)
	wantNone(t, s, top, "q")
	wantLog(t, "of a leaf without it", s, got(nums(6, 5)...)...)
	wantFind(t, s, ref(3, 1), item("d", 1))
	wantNone(t, s, ref(3, 1), "")
	wantLog(t, "of a leaf", s, got(nums(3, 3)...)...)
	top = treeOf(t, s, "", "\xff\xfe", "a\x00", "a", "\x00")
	for _, k := range []string{"", "\xff\xfe", "a\x00", "a", "\x00"} {
		wantFind(t, s, top, item(k, 1))
	}
}

// P13.2, P13.9: at the level 16 are leaves of any number of items, and all ways to them are gone.
func TestDeepestLeaf(t *testing.T) {
	s := newTape()
	keys := deeps(-1, 9)
	top := treeOf(t, s, keys...)
	var want []deed
	want = append(want, laid(leaf(items(1, keys...)...))...)
	for i := range levels {
		want = append(want, laid(branch(9, map[int]api.Ref{0: ref(i+1, 1)}))...)
	}
	wantLog(t, "sixteen branches above one leaf", s, want...)
	for _, k := range keys {
		wantFind(t, s, top, item(k, 1))
		if n := len(s.gets()); n != levels+1 {
			t.Errorf("%d gets", n)
		}
		s.forget()
	}
	wantNone(t, s, top, deep(-1, 9))
	wantAll(t, s, top, items(1, keys...)...)
	if refs, e := trie.Refs(s, top); len(refs) != levels+1 || refs[0] != top || refs[levels] != ref(1, 1) || e != isOK {
		t.Errorf("Refs: %v, %d", refs, e)
	}
}

// P13.4, P13.9: what parts at the last digit alone; the bounds of a Change of one edit are reached.
func TestLastDigit(t *testing.T) {
	s := newTape()
	var keys []string
	for _, end := range fives() {
		keys = append(keys, nought+end)
	}
	slices.Sort(keys)
	top := treeOf(t, s, keys[:4]...)
	s.forget()
	top, retired := mustChange(t, s, top, put(1, keys[4]))
	if len(s.gets()) != 1 || s.allocs() != levels+1+maxLeaf || len(retired) != 1 {
		t.Errorf("a fifth: %v, %v retired", s.log, retired)
	}
	wantAll(t, s, top, items(1, keys...)...)
	s.forget()
	top, retired = mustChange(t, s, top, gone(keys[2]))
	if len(s.gets()) != levels+1+maxLeaf || s.allocs() != 1 || len(retired) != levels+1+maxLeaf {
		t.Errorf("without it: %v, %v retired", s.log, retired)
	}
	wantAll(t, s, top, items(1, keys[0], keys[1], keys[3], keys[4])...)
}

// P13.3: the items come by their digits, and are told by their keys.
func TestAll(t *testing.T) {
	s, top := five(t)
	wantAll(t, s, zero)
	wantLog(t, "of the zero Ref", s)
	wantAll(t, s, top, items(1, "a", "b", "c", "d", "e")...)
	wantLog(t, "of a branch", s, got(nums(6, 1, 2, 3, 4, 5)...)...)
	wantAll(t, s, ref(2, 1), item("c", 1))
	wantLog(t, "of a leaf", s, got(ref(2, 1))...)
}

// P13.3: as they came, where keys are alike.
func TestAllAlike(t *testing.T) {
	s := newTape()
	s.nodes[ref(1, 1)] = branch(3, map[int]api.Ref{1: ref(2, 1), 4: ref(3, 1), 9: ref(2, 1)})
	var first, second []api.Item
	for i := range 30 {
		first = append(first, item("y", i), item("x", i))
		second = append(second, item("x", 100+i))
	}
	s.nodes[ref(2, 1)], s.nodes[ref(3, 1)] = leaf(first...), leaf(second...)
	var x, y []api.Item
	for i := range 30 {
		x, y = append(x, item("x", i)), append(y, item("y", i))
	}
	wantAll(t, s, ref(1, 1), slices.Concat(x, second, x, y, y)...)
}

// P13.11.
func TestSome(t *testing.T) {
	s, top := five(t)
	want := func(what string, top api.Ref, keys []string, gets []api.Ref, found ...string) {
		t.Helper()
		l, e := trie.Some(s, top, keys)
		wantItems(t, what, l, e, items(1, found...)...)
		wantLog(t, what, s, got(gets...)...)
	}
	want("of no keys", top, nil, nil)
	want("of no keys, in a tree that is lost", ref(99, 1), []string{}, nil)
	want("of the zero Ref", zero, []string{"a", "b"}, nil)
	want("of one", top, []string{"a"}, nums(6, 5), "a")
	want("by rising digits, and told by rising keys", top, []string{"a", "b", "e"}, nums(6, 1, 4, 5), "a", "b", "e")
	want("of two in one leaf, one of which is not there", top, []string{"a", "q"}, nums(6, 5), "a")
	want("of none that is there", top, []string{"f", "q", "x"}, nums(6, 5))
	want("of all", top, []string{"a", "b", "c", "d", "e", "f", "u"}, nums(6, 1, 2, 3, 4, 5), "a", "b", "c", "d", "e")
	want("of a leaf", ref(2, 1), []string{"a", "c"}, nums(2), "c")
	if l, e := trie.Some(s, ref(99, 1), []string{"a"}); l != nil || e != isLost {
		t.Errorf("of a tree that is lost: %v, %d", l, e)
	}
}

// P13.5.
func TestRefs(t *testing.T) {
	s, top := five(t)
	want := func(top api.Ref, want ...api.Ref) {
		t.Helper()
		refs, e := trie.Refs(s, top)
		if e != isOK || !slices.Equal(refs, want) {
			t.Errorf("Refs: %v, %d; want %v", refs, e, want)
		}
		wantLog(t, "Refs", s, got(want...)...)
	}
	want(zero)
	want(ref(1, 1), ref(1, 1))
	want(top, nums(6, 1, 2, 3, 4, 5)...)
	s = newTape()
	top = branches(t, s)
	want(top, nums(6, 4, 3, 1, 2, 5)...)
	want(ref(4, 1), nums(4, 3, 1, 2)...)
}

// partLate are five whose digits part at the level 2, beside one other at the level 0.
func partLate() ([]string, string) {
	return []string{deep(2, 0), deep(2, 1), deep(-1, 0), deep(-1, 1), deep(-1, 2)}, deep(0, 0)
}

// branches lays them down: 1, those of the digit 0 at the level 2, 2, those of 1 there; 3 and 4, branches at 2 and 1; 5, the other; 6, the top.
func branches(t *testing.T, s *tape) api.Ref {
	t.Helper()
	in, other := partLate()
	top := treeOf(t, s, append(in, other)...)
	wantLog(t, "laid", s, laid(leaf(items(1, sortedKeys(in[2:]...)...)...), leaf(items(1, sortedKeys(in[:2]...)...)...),
		branch(5, map[int]api.Ref{0: ref(1, 1), 1: ref(2, 1)}), branch(5, map[int]api.Ref{0: ref(3, 1)}), leaf(item(other, 1)),
		branch(6, map[int]api.Ref{0: ref(4, 1), 1: ref(5, 1)}))...)
	return top
}

// P13.4, 1: without edits a tree is not looked at, be it lost.
func TestNoEdits(t *testing.T) {
	s, top := five(t)
	for _, top := range []api.Ref{top, zero, ref(1, 1), ref(99, 3)} {
		wantChange(t, s, top, nil, top)
		wantChange(t, s, top, []api.Edit{}, top)
	}
	wantLog(t, "no edits", s)
}

// P13.4, 2: nothing, and what is laid there.
func TestOfNothing(t *testing.T) {
	s := newTape()
	wantChange(t, s, zero, gone("a", "b", "c", "d", "e", "f"), zero)
	wantLog(t, "nothing laid", s)
	wantChange(t, s, zero, edits(gone("a", "c"), put(3, "b", "d")), ref(1, 1))
	wantLog(t, "two laid", s, laid(leaf(item("b", 3), item("d", 3)))...)
	s, top := five(t)
	wantChange(t, s, top, edits(put(2, "x", "h"), gone("f")), ref(8, 1), top)
	next := branch(7, map[int]api.Ref{0: ref(1, 1), 2: ref(2, 1), 3: ref(3, 1), 5: ref(4, 1), 7: ref(7, 1), 12: ref(5, 1)})
	wantLog(t, "a kid where none was", s, slices.Concat(got(top), laid(leaf(items(2, "h", "x")...), next))...)
}

// P13.4, 3: a leaf.
func TestOfLeaf(t *testing.T) {
	s := newTape()
	top := treeOf(t, s, "b", "d", "f")
	s.forget()
	want := func(what string, l []api.Edit, want ...api.Item) {
		t.Helper()
		wantChange(t, s, top, l, ref(s.made+1, 1), top)
		wantLog(t, what, s, slices.Concat(got(top), laid(leaf(want...)))...)
	}
	want("one in the place of another", put(2, "d"), item("b", 1), item("d", 2), item("f", 1))
	want("the very same item laid", put(1, "d"), items(1, "b", "d", "f")...)
	want("one more", put(2, "c"), item("b", 1), item("c", 2), item("d", 1), item("f", 1))
	want("one ahead, one behind, one taken away", edits(put(2, "a", "g"), gone("d")), item("a", 2), item("b", 1), item("f", 1), item("g", 2))
	want("one taken away, another not there", gone("a", "b", "c", "g"), items(1, "d", "f")...)
	want("all in the place of others", put(5, "b", "d", "f"), items(5, "b", "d", "f")...)
	want("one laid, another not there", edits(put(2, "a"), gone("x")), item("a", 2), item("b", 1), item("d", 1), item("f", 1))
	wantChange(t, s, top, gone("a", "c", "e", "g"), top)
	wantLog(t, "none of these is there", s, got(top)...)
	wantChange(t, s, top, gone("b", "d", "f"), zero, top)
	wantLog(t, "all taken away", s, got(top)...)
	wantAll(t, s, top, items(1, "b", "d", "f")...)
}

// P13.4, 3: a leaf of more than four is none, but at the level 16.
func TestLeafGrows(t *testing.T) {
	s := newTape()
	top := treeOf(t, s, "a", "b", "q")
	s.forget()
	wantChange(t, s, top, put(2, "c", "d"), ref(6, 1), top)
	wantLog(t, "five", s, slices.Concat(got(top), laid(one("c", 2), one("d", 2), one("b", 1), leaf(items(1, "a", "q")...),
		branch(5, map[int]api.Ref{2: ref(2, 1), 3: ref(3, 1), 5: ref(4, 1), 12: ref(5, 1)})))...)

	s = newTape()
	keys := deeps(-1, 6)
	top = treeOf(t, s, keys[:5]...)
	s.forget()
	next, retired := mustChange(t, s, top, put(1, keys[5]))
	if n := len(s.gets()); n != levels+1 || s.allocs() != levels+1 || !slices.Equal(retired, s.gets()) {
		t.Errorf("%v: %v retired", s.log, retired)
	}
	wantAll(t, s, next, items(1, keys...)...)
	wantAll(t, s, top, items(1, keys[:5]...)...)
}

// P13.4, 4: a branch.
func TestOfBranch(t *testing.T) {
	s, top := five(t)
	is := func(kids map[int]api.Ref) map[int]api.Ref {
		all := map[int]api.Ref{0: ref(1, 1), 2: ref(2, 1), 3: ref(3, 1), 5: ref(4, 1), 12: ref(5, 1)}
		for digit, r := range kids {
			all[digit] = r
		}
		return all
	}
	wantChange(t, s, top, put(2, "b"), ref(8, 1), nums(6, 4)...)
	wantLog(t, "one in the place of another", s, slices.Concat(got(nums(6, 4)...), laid(one("b", 2), branch(5, is(map[int]api.Ref{5: ref(7, 1)}))))...)
	wantChange(t, s, top, edits(put(2, "q", "r"), gone("a")), ref(11, 1), nums(6, 4, 5)...)
	wantLog(t, "two laid, one taken away", s, slices.Concat(got(nums(6, 4, 5)...), laid(leaf(item("b", 1), item("r", 2)), one("q", 2), branch(6, is(map[int]api.Ref{5: ref(9, 1), 12: ref(10, 1)}))))...)
	wantChange(t, s, top, edits(put(2, "f"), gone("c")), ref(13, 1), nums(6, 2)...)
	wantLog(t, "one laid, a kid taken away", s, slices.Concat(got(nums(6, 2)...), laid(one("f", 2), branch(5, is(map[int]api.Ref{2: zero, 9: ref(12, 1)}))))...)
	wantChange(t, s, top, gone("a", "b", "c", "d", "e"), zero, nums(6, 1, 2, 3, 4, 5)...)
	wantLog(t, "all taken away", s, got(nums(6, 1, 2, 3, 4, 5)...)...)
	wantChange(t, s, top, edits(gone("a", "b"), put(7, "c", "e")), ref(14, 1), nums(6, 1, 2, 4, 5, 3)...)
	wantLog(t, "a leaf, of changed kids and one that stays", s, slices.Concat(got(nums(6, 1, 2, 4, 5, 3)...), laid(leaf(item("c", 7), item("d", 1), item("e", 7))))...)
	wantAll(t, s, top, items(1, "a", "b", "c", "d", "e")...)
}

// P13.4, 4: a kid that stays and is looked at is got twice, where the branch becomes a leaf: it is retired with the second Get.
func TestGotTwice(t *testing.T) {
	s, top := five(t)
	wantChange(t, s, top, gone("b", "q", "u"), ref(7, 1), nums(6, 4, 1, 2, 3, 5)...)
	wantLog(t, "e and a are got twice", s, slices.Concat(got(nums(6, 1, 4, 5, 1, 2, 3, 5)...), laid(leaf(items(1, "a", "c", "d", "e")...)))...)
}

// P13.4, 4: branches in a branch: each stays, or becomes a branch or a leaf, by itself.
func TestBranchesInBranches(t *testing.T) {
	s := newTape()
	in, other := partLate()
	top := branches(t, s)
	rest := []string{in[0], in[1], in[3], in[4]}
	wantChange(t, s, top, gone(in[2]), ref(8, 1), nums(6, 4, 3, 1, 2)...)
	wantLog(t, "a leaf in a branch", s, slices.Concat(got(nums(6, 4, 3, 1, 2)...), laid(leaf(items(1, sortedKeys(rest...)...)...),
		branch(5, map[int]api.Ref{0: ref(7, 1), 1: ref(5, 1)})))...)
	wantChange(t, s, top, edits(gone(in[2], other)), ref(9, 1), nums(6, 4, 3, 1, 2, 5)...)
	wantLog(t, "leaves become one", s, slices.Concat(got(nums(6, 4, 3, 1, 2, 5)...), laid(leaf(items(1, sortedKeys(rest...)...)...)))...)
	wantChange(t, s, top, gone(in[3], in[4], deep(2, 7)), ref(10, 1), nums(6, 4, 3, 1, 2, 5)...)
	wantLog(t, "all as one leaf, with what was got twice", s, slices.Concat(got(nums(6, 4, 3, 1, 2, 2, 5)...), laid(leaf(items(1, sortedKeys(in[0], in[1], in[2], other)...)...)))...)
	wantChange(t, s, top, edits(put(2, other), gone(deep(3, 1), deep(2, 9))), ref(12, 1), nums(6, 5)...)
	wantLog(t, "a branch that stays, though it was looked at", s, slices.Concat(got(nums(6, 4, 3, 1, 2, 5)...), laid(leaf(item(other, 2)),
		branch(6, map[int]api.Ref{0: ref(4, 1), 1: ref(11, 1)})))...)
}
