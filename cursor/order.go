package cursor

import (
	"cmp"
	"slices"
	"strings"

	"docket/api"
	"docket/ident"
)

// ways is how many kids a branch has room for: one for each digit.
const ways = 16

// place is where an item stands in the walk. The zero place is ahead of all: no item has it, as the empty Key has another rank.
type place struct {
	rank uint64 // the digits of its Key, that of the level 0 as the highest: so ranks lie as digits do, level by level
	key  string
}

func placeOf(key string) place {
	sum, rank := ident.Hash(key), uint64(0)
	for level := range api.Levels {
		rank = rank*ways + uint64(ident.Digit(sum, level))
	}
	return place{rank, key}
}

// digit is that of the Key at a level.
func (a place) digit(level int) int { return ident.Digit(a.rank, api.Levels-1-level) }

func (a place) compare(b place) int {
	if c := cmp.Compare(a.rank, b.rank); c != 0 {
		return c
	}
	return strings.Compare(a.key, b.key)
}

// Order: P19.5.
func Order(items []api.Item) []api.Item {
	ordered := make([]api.Item, 0, len(items))
	for _, i := range placesOf(items).order() {
		ordered = append(ordered, items[i])
	}
	return ordered
}

// places are those of a list of items, each made once, however often it is compared.
type places []place

func placesOf(items []api.Item) places {
	all := make(places, len(items))
	for i, x := range items {
		all[i] = placeOf(x.Key)
	}
	return all
}

// order is the list's numbers, in the order of the walk: so the items, which are great, are not moved about.
func (l places) order() []int {
	numbers := make([]int, len(l))
	for i := range numbers {
		numbers[i] = i
	}
	slices.SortFunc(numbers, l.compare)
	return numbers
}

// compare is of two numbers of the list. Alike Keys are as they stand there.
func (l places) compare(i, k int) int {
	if c := l[i].compare(l[k]); c != 0 {
		return c
	}
	return cmp.Compare(i, k)
}
