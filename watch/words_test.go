package watch_test

import (
	"slices"

	"docket/api"
)

// The chapter's words, written plainly: what the package answers is held against what they say.

// plain is a log that forgets nothing: all changes that were ever laid in.
type plain struct {
	keep int
	all  []api.Change
}

func (p plain) last() int64 {
	if len(p.all) == 0 {
		return 0
	}
	return p.all[len(p.all)-1].Stamp
}

// parts are the changes that have gone, and those that it has: P18.2.
func (p plain) parts() (gone, has []api.Change) {
	for i, c := range p.all {
		if len(p.all)-i > p.keep {
			gone = append(gone, c)
		} else {
			has = append(has, c)
		}
	}
	return gone, has
}

// horizon is P18.3.
func (p plain) horizon() int64 {
	gone, _ := p.parts()
	greatest := int64(0)
	for _, c := range gone {
		greatest = max(greatest, c.Stamp)
	}
	return greatest
}

// with is P18.2; whether it is the log itself is told, too.
func (p plain) with(stamp int64, changes []api.Change) (plain, bool) {
	if stamp <= p.last() || len(changes) == 0 {
		return p, true
	}
	all := slices.Clone(p.all)
	for _, c := range changes {
		all = append(all, api.Change{Stamp: stamp, In: c.In, Id: c.Id, Kind: c.Kind})
	}
	return plain{p.keep, all}, false
}

// after is P18.4, by stamps that are told one behind the other.
func (p plain) after(after, limit int64, in string) ([]api.Change, int64, api.Errno) {
	if after < p.horizon() {
		return nil, 0, api.ErrHorizon
	}
	var stamps [][]api.Change
	_, has := p.parts()
	for _, c := range has {
		if c.Stamp <= after || in != "" && c.In != in {
			continue
		}
		if n := len(stamps); n > 0 && stamps[n-1][0].Stamp == c.Stamp {
			stamps[n-1] = append(stamps[n-1], c)
		} else {
			stamps = append(stamps, []api.Change{c})
		}
	}
	var told []api.Change
	for i, one := range stamps {
		if limit > 0 && i > 0 && int64(len(told))+int64(len(one)) > limit {
			return told, stamps[i-1][0].Stamp, api.OK
		}
		told = append(told, one...)
	}
	return told, max(after, p.last()), api.OK
}

// mergeByWords is P18.5: of all lists' next changes that of the least stamp, of several the first.
func mergeByWords(lists [][]api.Change) []api.Change {
	var all []api.Change
	taken := make([]int, len(lists))
	for {
		from := -1
		for i, l := range lists {
			if taken[i] < len(l) && (from < 0 || l[taken[i]].Stamp < lists[from][taken[from]].Stamp) {
				from = i
			}
		}
		if from < 0 {
			return all
		}
		all = append(all, lists[from][taken[from]])
		taken[from]++
	}
}
