package shape

import (
	"slices"
	"strings"

	"docket/api"
	"docket/dotpath"
	"docket/order"
)

// Sort is an order of documents.
type Sort struct {
	turns []turn
}

// turn is a path by which documents are ordered, where those ahead of it leave them alike.
type turn struct {
	path    []string
	falling bool
}

// ParseSort: P6.1.
func ParseSort(v api.Value) (*Sort, api.Errno) {
	if v.Kind != api.Object {
		return nil, api.ErrSort
	}
	if members(v) > api.MaxKeys {
		return nil, api.ErrMany
	}
	s := &Sort{}
	for i := range members(v) {
		if e := s.add(v.Names[i], v.Items[i]); e != api.OK {
			return nil, e
		}
	}
	return s, api.OK
}

func (s *Sort) add(name string, item api.Value) api.Errno {
	path, e, _ := dotpath.Parse(name)
	if e != api.OK {
		return e
	}
	falling := isNumber(item, -1)
	if !falling && !isNumber(item, 1) {
		return api.ErrSort
	}
	if slices.ContainsFunc(s.turns, func(t turn) bool { return slices.Equal(t.path, path) }) {
		return api.ErrSort
	}
	s.turns = append(s.turns, turn{path, falling})
	return api.OK
}

// count is how many paths there are: none of a nil Sort.
func (s *Sort) count() int {
	if s == nil {
		return 0
	}
	return len(s.turns)
}

// Key: P6.2.
func (s *Sort) Key(d api.Value, i int) api.Value {
	if i < 0 || i >= s.count() {
		return api.Value{}
	}
	return s.turns[i].key(d)
}

func (t turn) key(d api.Value) api.Value {
	candidates := laid(nil, dotpath.All(d, t.path)...)
	place, there := order.Least(candidates...)
	if t.falling {
		place, there = order.Greatest(candidates...)
	}
	if !there {
		return api.Value{}
	}
	return candidates[place]
}

// keyed is a document with its keys, which are made once, however often it is compared.
type keyed struct {
	doc  api.Doc
	keys []api.Value
}

func (s *Sort) keyed(d api.Doc) keyed {
	keys := make([]api.Value, s.count())
	for i := range s.count() {
		keys[i] = s.Key(d.Value, i)
	}
	return keyed{d, keys}
}

// Compare: P6.3.
func (s *Sort) Compare(a, b api.Doc) int {
	return s.compare(s.keyed(a), s.keyed(b))
}

func (s *Sort) compare(a, b keyed) int {
	for i := range s.count() {
		if c := order.Compare(a.keys[i], b.keys[i]); c != 0 {
			return s.turns[i].turned(c)
		}
	}
	return strings.Compare(a.doc.Id, b.doc.Id)
}

func (t turn) turned(c int) int {
	if t.falling {
		return -c
	}
	return c
}

// Order: P6.3.
func (s *Sort) Order(l []api.Doc) []api.Doc {
	rows := make([]keyed, len(l))
	for i, d := range l {
		rows[i] = s.keyed(d)
	}
	slices.SortStableFunc(rows, s.compare)
	ordered := make([]api.Doc, len(l))
	for i, row := range rows {
		ordered[i] = row.doc
	}
	return ordered
}
