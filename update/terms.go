package update

import (
	"slices"
	"strconv"

	"docket/api"
	"docket/dotpath"
	"docket/filter"
)

// term is one of an update; its types are those below and no others.
type term interface{ term() }

type (
	// anywhere is a change at each place of a path.
	anywhere struct {
		path   path
		change change
	}
	// whenFresh is done to a document that is fresh alone.
	whenFresh struct{ anywhere anywhere }
	// renaming is of one place, and its paths are dotpath's.
	renaming struct{ from, to path }
)

func (anywhere) term()  {}
func (whenFresh) term() {}
func (renaming) term()  {}

func pathsOf(t term) []path {
	var paths []path
	switch t := t.(type) {
	case anywhere:
		paths = []path{t.path}
	case whenFresh:
		paths = []path{t.anywhere.path}
	case renaming:
		paths = []path{t.from, t.to}
	}
	return paths
}

// behindAll is d behind all terms.
func (u *Update) behindAll(d api.Value, fresh bool) (api.Value, error) {
	if Document(d) != api.OK {
		return d, fault(api.ErrDoc)
	}
	for i, t := range u.terms {
		var err error
		if d, err = u.behind(t, d, fresh); err != nil {
			return d, located{err, i}
		}
	}
	return d, nil
}

func (u *Update) behind(t term, d api.Value, fresh bool) (api.Value, error) {
	var err error
	switch t := t.(type) {
	case anywhere:
		d, err = u.changed(t, d)
	case whenFresh:
		if fresh {
			d, err = u.changed(t.anywhere, d)
		}
	case renaming:
		d, err = renamed(t, d)
	}
	if err != nil {
		return d, err
	}
	return d, failed(Document(d))
}

func (u *Update) changed(t anywhere, d api.Value) (api.Value, error) {
	places, err := u.meant.places(t.path, d)
	if err != nil {
		return d, err
	}
	for _, place := range places {
		if d, err = t.change(d, place); err != nil {
			return d, err
		}
	}
	return d, nil
}

func renamed(t renaming, d api.Value) (api.Value, error) {
	v, there := dotpath.Get(d, t.from)
	if !there {
		return d, nil
	}
	d, _ = dotpath.Unset(d, t.from)
	return laid(d, t.to, v)
}

// meanings says by a name which items of a list are meant. The empty name, that of $[], has none: a nil filter takes every item.
type meanings map[string]*filter.Filter

// places tells the paths, of segments alone, that a path means in d.
func (m meanings) places(p path, d api.Value) ([][]string, error) {
	found := [][]string{nil}
	for _, part := range p {
		var err error
		if found, err = m.onward(found, part, d); err != nil {
			return nil, err
		}
	}
	if len(found) > api.MaxPlaces {
		return nil, fault(api.ErrBig)
	}
	return found, nil
}

// onward goes from the places found so far on by one part more.
func (m meanings) onward(found [][]string, part string, d api.Value) ([][]string, error) {
	var further [][]string
	for _, place := range found {
		if !meansItems(part) {
			further = append(further, behindPlace(place, part))
			continue
		}
		v, there := dotpath.Get(d, place)
		if !there || !isList(v) {
			return nil, fault(api.ErrWhere)
		}
		for i, item := range v.Items {
			if m[nameOf(part)].Match(object("v", item)) {
				further = append(further, behindPlace(place, strconv.Itoa(i)))
			}
		}
	}
	return further, nil
}

// behindPlace is a list of its own: several places go on from one.
func behindPlace(place []string, segment string) []string {
	return append(slices.Clip(place), segment)
}
