package watch

import (
	"slices"

	"docket/api"
)

// Merge: P18.5.
func Merge(logs ...[]api.Change) []api.Change {
	return merged(logs, func(a, b api.Change) bool { return a.Stamp < b.Stamp })
}

// merged is several lists in one. Which list of a half is the next to be taken from does not hang on the other half: so each half is merged alone, and what comes first in it is the least of its lists' next ones.
func merged[T any](lists [][]T, less func(a, b T) bool) []T {
	if len(lists) < 2 {
		return slices.Concat(lists...)
	}
	ahead, behind := cut(lists, len(lists)/2)
	return woven(merged(ahead, less), merged(behind, less), less)
}

func woven[T any](a, b []T, less func(a, b T) bool) []T {
	all := make([]T, 0, len(a)+len(b))
	for len(a) > 0 && len(b) > 0 {
		if less(b[0], a[0]) {
			all, b = append(all, b[0]), b[1:]
		} else {
			all, a = append(all, a[0]), a[1:]
		}
	}
	return append(append(all, a...), b...)
}

// cut parts a list in two, neither with spare room: whoever lays something behind a part makes new memory, and writes over nothing that the other part, or another log, has there.
func cut[T any](list []T, at int) (ahead, behind []T) {
	return list[:at:at], list[at:len(list):len(list)]
}

// lastOf cuts off all but the last n.
func lastOf[T any](list []T, n int) (others, last []T) {
	return cut(list, max(0, len(list)-n))
}
