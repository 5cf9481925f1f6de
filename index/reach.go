package index

import (
	"iter"
	"sort"

	"docket/api"
	"docket/order"
)

// reach is a range of entries: the place of its first, and the one behind its last.
type reach struct{ from, to int }

// within goes over the entries of a range.
func (x *Index) within(r reach) iter.Seq2[api.Value, string] {
	return func(yield func(api.Value, string) bool) {
		for i := r.from; i < r.to; i++ {
			if e := x.entries[i]; !yield(e.value, e.key) {
				return
			}
		}
	}
}

// reaches are the ranges of the entries that meet op and a value; no entry lies in two of them.
func (x *Index) reaches(op int, v api.Value) []reach {
	notBelow := func(w api.Value) bool { return order.Compare(w, v) >= 0 }
	above := func(w api.Value) bool { return order.Compare(w, v) > 0 }
	ofClass := func(w api.Value) bool { return class(w) >= class(v) }
	behindClass := func(w api.Value) bool { return class(w) > class(v) }
	switch op {
	case api.NeedEq:
		return x.between(notBelow, above)
	case api.NeedGt:
		return x.between(above, behindClass)
	case api.NeedGte:
		return x.between(notBelow, behindClass)
	case api.NeedLt:
		return x.between(ofClass, notBelow)
	case api.NeedLte:
		return x.between(ofClass, above)
	case api.NeedIn:
		return x.ofOne(v)
	}
	return nil
}

// between is from the first entry of which begins holds up to the first of which ends does.
func (x *Index) between(begins, ends func(w api.Value) bool) []reach {
	return []reach{{x.place(begins), x.place(ends)}}
}

// place is that of the first entry of whose value holds is true: of all behind it, it must be true too.
func (x *Index) place(holds func(w api.Value) bool) int {
	return sort.Search(len(x.entries), func(i int) bool { return holds(x.entries[i].value) })
}

// ofOne are the ranges of the values that a list has, if v is one.
func (x *Index) ofOne(v api.Value) []reach {
	if v.Kind != api.List {
		return nil
	}
	var all []reach
	for _, item := range different(v.Items) {
		all = append(all, x.reaches(api.NeedEq, item)...)
	}
	return all
}

// class is the rank of a value, that of false for true too: values of one class lie side by side.
func class(v api.Value) int {
	if v.Kind == api.True {
		v.Kind = api.False
	}
	return order.Rank(v)
}
