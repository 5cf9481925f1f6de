package trie

import (
	"slices"
	"strings"

	"docket/api"
	"docket/ident"
)

// ways is how many kids a branch has room for: one for each digit.
const ways = 16

// mark stands for something in a list that has a key. The key's sum is made once, however deep its digits lead.
type mark struct {
	key string
	sum uint64
	at  int // its place in the list
}

func marksOf(n int, key func(i int) string) []mark {
	marks := make([]mark, n)
	for i := range marks {
		k := key(i)
		marks[i] = mark{key: k, sum: ident.Hash(k), at: i}
	}
	return marks
}

func rise(marks []mark) bool {
	for i := 1; i < len(marks); i++ {
		if marks[i-1].key >= marks[i].key {
			return false
		}
	}
	return true
}

// parts are the marks by the digits of their keys at a level, those of each digit in the order that they had.
func parts(marks []mark, level int) [ways][]mark {
	var counts [ways]int
	for _, m := range marks {
		counts[ident.Digit(m.sum, level)]++
	}
	var all [ways][]mark
	room := make([]mark, len(marks))
	for digit, n := range counts {
		all[digit], room = room[:0:n], room[n:]
	}
	for _, m := range marks {
		digit := ident.Digit(m.sum, level)
		all[digit] = append(all[digit], m)
	}
	return all
}

// marked tells whether one of the marks is of that key; they rise.
func marked(marks []mark, key string) bool {
	_, there := slices.BinarySearchFunc(marks, key, func(m mark, key string) int { return strings.Compare(m.key, key) })
	return there
}

// with are the items of which there are marks, without those of which there are none.
func with(items []api.Item, marks []mark) []api.Item {
	return chosen(items, func(x api.Item) bool { return marked(marks, x.Key) })
}

func without(items []api.Item, marks []mark) []api.Item {
	return chosen(items, func(x api.Item) bool { return !marked(marks, x.Key) })
}

func chosen(items []api.Item, take func(api.Item) bool) []api.Item {
	var some []api.Item
	for _, x := range items {
		if take(x) {
			some = append(some, x)
		}
	}
	return some
}

// itemOf looks at each item: those of a leaf that is not right need not rise.
func itemOf(items []api.Item, key string) (api.Item, bool) {
	for _, x := range items {
		if x.Key == key {
			return x, true
		}
	}
	return api.Item{}, false
}

// byKeys is a new list of all items, by rising keys, and as they came where keys are alike.
func byKeys(lists ...[]api.Item) []api.Item {
	all := slices.Concat(lists...)
	slices.SortStableFunc(all, func(a, b api.Item) int { return strings.Compare(a.Key, b.Key) })
	return all
}
