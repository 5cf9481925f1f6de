package index

import (
	"slices"
	"sort"
	"strings"

	"docket/api"
	"docket/dotpath"
	"docket/jsonval"
	"docket/order"
)

// entry is a value that a document has at the path, and the document's Key. All indexes that have it share it, so that a change copies where the entries lie, not what they are.
type entry struct {
	value api.Value
	key   string
}

// byValues is the order in which entries are told.
func byValues(a, b *entry) int {
	if c := order.Compare(a.value, b.value); c != 0 {
		return c
	}
	return strings.Compare(a.key, b.key)
}

// byKeys has the entries of one Key side by side, in whatever order: they come and go together.
func byKeys(a, b *entry) int {
	return strings.Compare(a.key, b.key)
}

// entriesOf are those of an item, by rising values.
func entriesOf(item api.Item, path []string) []*entry {
	var all []*entry
	for _, v := range different(tested(item.Value, path)) {
		all = append(all, &entry{value: v, key: item.Key})
	}
	return all
}

// tested are the values of a path, and behind each one that is a list its items.
func tested(d api.Value, path []string) []api.Value {
	var all []api.Value
	for _, v := range dotpath.All(d, path) {
		all = append(all, v)
		if v.Kind == api.List {
			all = append(all, v.Items...)
		}
	}
	return all
}

// different are the values in their order, each once.
func different(values []api.Value) []api.Value {
	return slices.CompactFunc(order.Sort(values), jsonval.Equal)
}

// having are the entries of a Key.
func (x *Index) having(key string) []*entry {
	from, _ := slices.BinarySearchFunc(x.keyed, key, func(e *entry, key string) int { return strings.Compare(e.key, key) })
	to := from
	for to < len(x.keyed) && x.keyed[to].key == key {
		to++
	}
	return x.keyed[from:to]
}

// edit is an entry that comes, or that goes.
type edit struct {
	*entry
	comes bool
}

// edited is a new list of one that lies in an order, without those that go, all of which it has, and with those that come. These are few mostly: so their places are sought, and what lies between is copied at once.
func edited(list, gone, came []*entry, compare func(a, b *entry) int) []*entry {
	all := make([]*entry, 0, len(list)-len(gone)+len(came))
	for _, x := range edits(gone, came, compare) {
		at := sort.Search(len(list), func(i int) bool { return compare(list[i], x.entry) >= 0 })
		all, list = append(all, list[:at]...), list[at:]
		if x.comes {
			all = append(all, x.entry)
		} else {
			list = list[1:]
		}
	}
	return append(all, list...)
}

func edits(gone, came []*entry, compare func(a, b *entry) int) []edit {
	all := make([]edit, 0, len(gone)+len(came))
	for _, e := range gone {
		all = append(all, edit{entry: e})
	}
	for _, e := range came {
		all = append(all, edit{entry: e, comes: true})
	}
	slices.SortFunc(all, func(a, b edit) int { return compare(a.entry, b.entry) })
	return all
}
