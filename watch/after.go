package watch

import (
	"sort"

	"docket/api"
)

// After: P18.4.
func (l *Log) After(after int64, limit int64, in string) ([]api.Change, int64, api.Errno) {
	if l == nil {
		return nil, max(after, 0), api.OK
	}
	if after < l.horizon {
		return nil, 0, api.ErrHorizon
	}
	_, above := cut(l.changes, upTo(l.changes, after))
	asked := of(above, in)
	told, left := cut(asked, fitting(asked, limit))
	if len(left) > 0 {
		return copies(told), told[len(told)-1].Stamp, api.OK
	}
	return copies(told), max(after, l.Last()), api.OK
}

// upTo is how many changes have that stamp, or one below it.
func upTo(changes []*api.Change, stamp int64) int {
	return sort.Search(len(changes), func(i int) bool { return changes[i].Stamp > stamp })
}

// of are the changes of a collection, or all of them, if none is named.
func of(changes []*api.Change, in string) []*api.Change {
	if in == "" {
		return changes
	}
	var own []*api.Change
	for _, c := range changes {
		if c.In == in {
			own = append(own, c)
		}
	}
	return own
}

// fitting is how many of the changes are told under a limit: not those of the stamp with which it is passed, unless that is the first one, as nobody would ever get past it.
func fitting(changes []*api.Change, limit int64) int {
	if limit <= 0 || limit >= int64(len(changes)) {
		return len(changes)
	}
	passing := changes[limit].Stamp
	if n := upTo(changes, passing-1); n > 0 {
		return n
	}
	return upTo(changes, passing)
}

func copies(changes []*api.Change) []api.Change {
	all := make([]api.Change, 0, len(changes))
	for _, c := range changes {
		all = append(all, *c)
	}
	return all
}
