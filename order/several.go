package order

import (
	"iter"
	"slices"

	"docket/api"
)

// Least: P3.5.
func Least(items ...api.Value) (int, bool) {
	return chosen(slices.Values(items), func(a, b api.Value) bool { return Compare(a, b) < 0 })
}

// Greatest: P3.5.
func Greatest(items ...api.Value) (int, bool) {
	return chosen(slices.Values(items), func(a, b api.Value) bool { return Compare(a, b) > 0 })
}

// chosen tells the place of the item over which none is chosen, the first one of several; whether there is one.
func chosen[T any](items iter.Seq[T], over func(a, b T) bool) (int, bool) {
	var best T
	place, seen := 0, 0
	for item := range items {
		if seen == 0 || over(item, best) {
			best, place = item, seen
		}
		seen++
	}
	return place, seen > 0
}

// Sort: P3.5.
func Sort(items []api.Value) []api.Value {
	sorted := make([]api.Value, len(items))
	copy(sorted, items)
	slices.SortStableFunc(sorted, Compare)
	return sorted
}
